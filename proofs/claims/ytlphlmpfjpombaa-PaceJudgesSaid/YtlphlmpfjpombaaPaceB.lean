/-
  The walks of slices.DeleteFunc over spans and of slices.Clone over numbers.
-/
import Derived.Test.YtlphlmpfjpombaaPaceA
import Derived.Deep.LoopGhost
namespace Go.Proofs.Ytlphlmpfjpombaa
open Go.RowKit Go.Instr

theorem Try.info3 : (Try.prog.info? 3).map (fun i => (i.zero, i.size, i.bytes)) = some (some (.int .i64 0), 1, 8) := by kernel_rfl
theorem infoP3 : ∃ i, Try.prog.info? 3 = some i ∧ i.zero = some (.int .i64 0) ∧ i.size = 1 ∧ i.bytes = 8 := by
  have h := Try.info3
  rcases hi : Try.prog.info? 3 with _ | i
  · rw [hi] at h; cases h
  · rw [hi] at h
    simp only [Option.map_some, Option.some.injEq, Prod.mk.injEq] at h
    exact ⟨i, rfl, h.1, h.2.1, h.2.2⟩
/-- What a clone of numbers is. -/
def ClonI (w : World) (l : List Nat) (e : Ending) (w' : World) : Prop := ∃ a n c, e = .returned (.slice a n c) ∧ intR.Own 3 w' w.heap.size (.slice a n c) l ∧ Below w.heap.size w w'
set_option maxHeartbeats 400000 in
theorem cloneI_any (base : Nat) (s : Value) (l : List Nat) (w : World) (hl : l.length ≤ 40) (h0 : 0 < l.length) (hs : intR.Own 3 w base s l) : Calls Try.prog 42 #[s] w (ClonI w l) := by
  have hat := hs.at
  rcases hat with ⟨_, h⟩ | ⟨b, off, cap, rfl, hb, hc⟩
  · rw [h] at h0; exact absurd h0 (Nat.lt_irrefl _)
  · obtain ⟨i0, hi0, hz0, hz1, hz2⟩ := infoP3
    have hrow := Lib.hid hc
    have hlen : Hid ((intR.row l).length = l.length * 1) := Lib.hid (by rw [RK.row_len]; rfl)
    have HI := Lib.hid (And.intro hi0 (And.intro hz0 (And.intro hz1 hz2)))
    clear hc hs hi0 hz0 hz1 hz2
    obtain ⟨n, hn⟩ : ∃ n, n = l.length := ⟨_, rfl⟩
    rw [← hn] at hl hlen h0 ⊢
    have HN := Lib.hid hn
    clear hn
    have q77 : ∀ (w : World) (a : Option Addr) (n c n' c' : Nat), (binOp .eql 77 (.slice a n c) (.slice none n' c')).run Try.prog w = .ok (.bool a.isNone) w := fun w a n c n' c' => Lib.run_eql_slice_nil w _ _ a n c n' c' Try.underlying77
    go_enter Try.func42, Try.ntmps42
    go_wp2_with (at_builtin; refine wpList_append_own1 _ rfl _ _ 77 rfl w.heap.size 3 i0 _ 1 8 Try.underlying77 HI.out.1 HI.out.2.1 HI.out.2.2.1 HI.out.2.2.2 rfl (by decide) _ 0 [] rfl (World.ownsRow_made w #[] 0 (Nat.le_refl _) (Nat.zero_le _) (by simp)) ⟨b, off, none⟩ n cap (intR.row l) rfl hlen.out ?qc2 (intR.row_ones l) (by unfold maxLen; omega) (by omega) (by simp) (by omega) ?_)
    case qc2 =>
      intro j u hj
      have e : (⟨b, off, none⟩ : Addr).add j = ⟨b, off + j, none⟩ := by unfold Addr.add; split <;> simp_all
      rw [e]
      have := hrow.out j u hj
      exact (World.cell?_alloc_some w _ _ (by rw [this]; rfl)).trans this
    intro g cap' w1 hg hown hgrow
    have HO : Hid (intR.Own 3 w1 w.heap.size (.slice (some ⟨g, 0, none⟩) n cap') l) := Lib.hid (by unfold RK.Own; rw [← HN.out]; exact hown)
    have HB : Hid (Below w.heap.size w w1) := Lib.hid (((Below.refl _ w).alloc (Nat.le_refl _) _).grown hgrow (by simp) (by intro k hk; simp [Value.ownBlock] at hk; omega))
    clear hown hgrow
    go_wp2
    go_ret
    exact ⟨_, _, _, rfl, HO.out, HB.out⟩
/-- A shorter head of a row of the call's own. -/
theorem RK.Own.cut {α : Type} {R : RK α} {E : TypeId} {w : World} {base g n cap i : Nat} {l : List α} (h : R.Own E w base (.slice (some ⟨g, 0, none⟩) n cap) l) (hi : i ≤ l.length) : R.Own E w base (.slice (some ⟨g, 0, none⟩) i cap) (l.take i) := by
  have hl : (l.take i).length = i := by rw [List.length_take]; omega
  refine ⟨by rw [R.row_len], ?_⟩
  rcases h.2 with ⟨h, _⟩ | ⟨g', cap', cur, he, hb, hg, hnc, hcm, hcs, ht⟩
  · cases h
  · simp only [Value.slice.injEq, Option.some.injEq, Addr.mk.injEq, and_true] at he
    obtain ⟨rfl, _, rfl⟩ := he
    refine .inr ⟨g, cap, cur, by rw [hl], hb, hg, by omega, hcm, hcs, ?_⟩
    rw [R.row_take, ← ht, List.take_take, hl, Nat.min_eq_left (Nat.mul_le_mul_right _ hi)]
/-- Stores behind the elements. -/
theorem RK.Own.past {α : Type} {R : RK α} {E : TypeId} {w : World} {base g n cap o : Nat} {l : List α} {vs : List Value} (h : R.Own E w base (.slice (some ⟨g, 0, none⟩) n cap) l) (ho : l.length * R.c ≤ o) (hv : o + vs.length ≤ cap * R.c) : R.Own E (w.setCells g o vs) base (.slice (some ⟨g, 0, none⟩) n cap) l := by
  refine ⟨h.1, ?_⟩
  rcases h.2 with ⟨h, _⟩ | ⟨g', cap', cur, he, hb, hg, hnc, hcm, hcs, ht⟩
  · cases h
  · simp only [Value.slice.injEq, Option.some.injEq, Addr.mk.injEq, and_true] at he
    obtain ⟨rfl, rfl, rfl⟩ := he
    refine .inr ⟨g, cap, _, rfl, hb, heap_setCells vs o w cur hg, hnc, hcm, ?_, ?_⟩
    · simp only [List.size_toArray, putAt_len]; exact hcs
    · show List.take (l.length * R.c) (putAt cur.toList o vs) = R.row l
      have hcl : cur.toList.length = cap * R.c := hcs
      rw [putAt_eq _ _ _ (by rw [hcl]; exact hv), List.append_assoc, List.take_append_of_le_length (by rw [List.length_take, hcl]; omega), List.take_take, Nat.min_eq_left ho]
      exact ht
theorem idx_filter {α : Type} (p : α → Bool) (l : List α) : (idxOf p l = -1 → l.filter (fun x => !p x) = l) ∧ (∀ i : Nat, idxOf p l = i → l.take i = (l.take (i + 1)).filter (fun x => !p x)) := by
  induction l with
  | nil => exact ⟨fun _ => rfl, fun i h => by simp⟩
  | cons a l ih =>
    by_cases hp : p a = true
    · constructor
      · intro h; simp [idxOf, hp] at h
      · intro i h
        simp [idxOf, hp] at h
        obtain rfl : i = 0 := by omega
        simp [hp]
    · have hp' : p a = false := by simpa using hp
      have hbd := idxOf_bd p l
      constructor
      · intro h
        have h2 : idxOf p l = -1 := by
          simp only [idxOf, hp', Bool.false_eq_true, if_false] at h
          split at h
          · omega
          · omega
        simp [hp', ih.1 h2]
      · intro i h
        simp only [idxOf, hp', Bool.false_eq_true, if_false] at h
        split at h
        · omega
        · obtain ⟨j, rfl⟩ : ∃ j : Nat, i = j + 1 := ⟨i - 1, by omega⟩
          have := ih.2 j (by omega)
          simp only [List.take_succ_cons, List.filter_cons, hp', Bool.not_false, if_true]
          rw [← this]
theorem filter_take_succ {α : Type} (q : α → Bool) (l : List α) (k : Nat) (hk : k < l.length) : (l.take (k + 1)).filter q = (l.take k).filter q ++ if q l[k] then [l[k]] else [] := by
  rw [List.take_succ_eq_append_getElem hk, List.filter_append]
  by_cases h : q l[k] = true
  · simp [h]
  · simp [h]
theorem filter_take_len {α : Type} (q : α → Bool) (l : List α) (k : Nat) : ((l.take k).filter q).length ≤ k := by
  have h1 := List.length_filter_le q (l.take k)
  have h2 : (l.take k).length ≤ k := List.length_take_le _ _
  omega
/-- What the deletion leaves: the row of those that are kept; all other blocks are as they were. -/
def DelF (base g cap : Nat) (w : World) (l : List TV) (e : Ending) (w' : World) : Prop :=
  e = .returned (.slice (some ⟨g, 0, none⟩) l.length cap) ∧ twoR.Own 85 w' base (.slice (some ⟨g, 0, none⟩) l.length cap) l ∧ Below base w w' ∧ ∀ k, k < w.heap.size → k ≠ g → w'.heap[k]? = w.heap[k]?
/-- The loop of the deletion: the kept ones ahead, those to come as they were. -/
def DelLoop (base g cap n : Nat) (w : World) (q : TV → Bool) (l : List TV) (i j : Value) (wr : World) : Prop :=
  ∃ (k m : Nat) (zs : List TV), k ≤ n ∧ j = .int .i64 k ∧ i = .int .i64 m ∧ m = ((l.take k).filter q).length ∧ m < k ∧ zs.length = l.length ∧ zs.take m = (l.take k).filter q ∧ zs.drop k = l.drop k ∧ twoR.Own 85 wr base (.slice (some ⟨g, 0, none⟩) n cap) zs ∧ Below base w wr ∧ w.heap.size ≤ wr.heap.size ∧ ∀ b, b < w.heap.size → b ≠ g → wr.heap[b]? = w.heap[b]?
theorem zero2 (n : Nat) : (Builtin.zeroCells (Value.agg #[.int .i64 0, .slice none 0 0]).cells n).toList.length = n * 2 ∧ ∀ u ∈ (Builtin.zeroCells (Value.agg #[.int .i64 0, .slice none 0 0]).cells n).toList, u.oneCell' = true := by
  refine ⟨by rw [Array.length_toList, size_zeroCells]; rfl, fun u hu => ?_⟩
  rw [Builtin.zeroCells, Array.toList_map] at hu
  obtain ⟨i, _, rfl⟩ := List.mem_map.1 hu
  have h2 : i % 2 < 2 := Nat.mod_lt _ (by decide)
  have e : (Value.agg #[.int .i64 0, .slice none 0 0]).cells = #[.int .i64 0, .slice none 0 0] := by simp [Value.cells]
  rw [e]
  show (#[Value.int .i64 0, Value.slice none 0 0][i % 2]!).oneCell' = true
  generalize i % 2 = r at h2
  match r, h2 with
  | 0, _ => rfl
  | 1, _ => rfl
theorem run_clear85 (w : World) (ty g o n c : Nat) (hn : 0 < n) (hc : ∀ j, j < n * 2 → (w.cell? ⟨g, o + j, none⟩).isSome = true) (hf : ∀ j, j < n * 2 → w.frozen? ⟨g, o + j, none⟩ = false) :
    ∃ zs : List Value, zs.length = n * 2 ∧ (Builtin.clear_ #[81] ty #[.slice (some ⟨g, o, none⟩) n c]).run Try.prog w = .ok (.tuple #[]) (w.setCells g o zs) := by
  obtain ⟨hz1, hz2⟩ := zero2 n
  refine ⟨_, hz1, ?_⟩
  have hst := run_storeCells_cells (P := Try.prog) g o (Builtin.zeroCells (Value.agg #[.int .i64 0, .slice none 0 0]).cells n).toList 0 w (by rw [hz1]; simpa using hc) (by rw [hz1]; simpa using hf) hz2
  simp only [Nat.add_zero] at hst
  obtain ⟨m, rfl⟩ : ∃ m, n = m + 1 := ⟨n - 1, by omega⟩
  simp [Builtin.clear_, run_underlying Try.underlying81, Try.zeroValue85, hst]
theorem set_take_app {α : Type} {zs : List α} {m : Nat} {a : α} (h : m < zs.length) : (zs.set m a).take (m + 1) = zs.take m ++ [a] := by
  rw [List.take_set, List.take_succ_eq_append_getElem h, List.set_append_right _ _ (by simp; omega)]
  simp [Nat.min_eq_left (Nat.le_of_lt h)]
theorem drop_set_ge {α : Type} {zs : List α} {m k : Nat} {a : α} (h : m < k) : (zs.set m a).drop k = zs.drop k := by
  rw [List.drop_set, if_pos h]
theorem drop_succ_eq {α : Type} {zs l : List α} {k : Nat} (h : zs.drop k = l.drop k) : zs.drop (k + 1) = l.drop (k + 1) := by
  rw [← List.drop_drop, ← List.drop_drop, h]
theorem get_of_drop {α : Type} {zs l : List α} {k : Nat} (h : zs.drop k = l.drop k) (h1 : k < zs.length) (h2 : k < l.length) : zs[k] = l[k] := by
  have e1 := List.drop_eq_getElem_cons h1
  have e2 := List.drop_eq_getElem_cons h2
  rw [h, e2] at e1
  exact ((List.cons.injEq ..).mp e1).1.symm
set_option maxHeartbeats 4000000 in
theorem delF_any (base g cap : Nat) (ys : List TV) (bn bp nb o P t hold : Nat) (w : World) (hl : ys.length ≤ 1000) (hs : twoR.Own 85 w base (.slice (some ⟨g, 0, none⟩) ys.length cap) ys) (hc : ClosAt w bn bp nb o P t hold) (ht : t ≤ 1000000) (hy : ∀ y ∈ ys, y.t ≤ t) (hb0 : base ≤ w.heap.size) (n1 : bn ≠ g) (n2 : bp ≠ g) (n3 : nb ≠ g) (n4 : P ≠ g) :
    Calls Try.prog 40 #[.slice (some ⟨g, 0, none⟩) ys.length cap, .func (.func 41) #[] #[.pointer (some ⟨bn, 0, none⟩), .pointer (some ⟨bp, 0, none⟩)]] w (DelF base g cap w (ys.filter fun y => !doneB t hold y)) := by
  obtain ⟨r, hr⟩ : ∃ r, idxOf (doneB t hold) ys = r := ⟨_, rfl⟩
  have hgw : g < w.heap.size := (World.ownsRow.lt hs g rfl).2
  have hgb : base ≤ g := (World.ownsRow.lt hs g rfl).1
  obtain ⟨hncap, hcm⟩ : ys.length ≤ cap ∧ cap ≤ maxLen := by
    rcases hs.2 with ⟨h, _⟩ | ⟨g', cap', cur, he, _, _, hnc, hcm, _⟩
    · cases h
    · simp only [Value.slice.injEq, Option.some.injEq, Addr.mk.injEq, and_true] at he
      obtain ⟨_, _, rfl⟩ := he
      exact ⟨hnc, hcm⟩
  have HS := Lib.hid hs
  have HC := Lib.hid hc
  have HY := Lib.hid hy
  have HR := Lib.hid hr
  have HL := Lib.hid hl
  have hlt0 : ∀ i : Nat, r = i → i < ys.length := fun i hi => by
    have := (idxOf_bd (doneB t hold) ys).2
    rw [hr, hi] at this; omega
  have hm1 : r = -1 ∨ ∃ i : Nat, r = i := by
    rcases idx_cases (doneB t hold) ys with h | ⟨i, h, _⟩
    · left; rw [← hr]; exact h
    · right; exact ⟨i, by rw [← hr]; exact h⟩
  obtain ⟨n, hn⟩ : ∃ n, ys.length = n := ⟨_, rfl⟩
  have HN := Lib.hid hn
  rw [hn] at hs hl hncap HS ⊢
  clear hs hc hy hr hn
  rcases hm1 with rfl | ⟨i, rfl⟩
  · clear hlt0
    go_enter Try.func40, Try.ntmps40
    go_wp2_with (go_at_call 44; (refine (idx_done _ ys bn bp nb o P t hold _ HL.out HS.out.at HC.out ht HY.out).mono ?_); rw [HR.out]; rintro en w1 ⟨rfl, hB1⟩; have HB1 := Lib.hid hB1; clear hB1)
    go_ret
    have e := (idx_filter (doneB t hold) ys).1 HR.out
    rw [e]
    have hD : DelF base g cap w ys (.returned (.slice (some ⟨g, 0, none⟩) n cap)) w1 := by
      unfold DelF
      rw [HN.out]
      exact ⟨rfl, HS.out.on HB1.out, HB1.out.mono hb0, fun k hk _ => HB1.out.block k hk⟩
    exact hD
  · have hin : i < n := by have := hlt0 i rfl; rw [HN.out] at this; exact this
    have hi1 : ((i : Int) == -1) = false := by simp
    clear hlt0
    have hflt := (idx_filter (doneB t hold) ys).2 i HR.out
    have HST : ∀ w1, Below w.heap.size w w1 → Hid (DelLoop base g cap n w (fun y => !doneB t hold y) ys (.int .i64 i) (.int .i64 (i + 1)) w1) := fun w1 hB1 => Lib.hid (by
      have e : ((ys.take (i + 1)).filter fun y => !doneB t hold y).length = i := by
        rw [← hflt, List.length_take, HN.out]; omega
      exact ⟨i + 1, i, ys, by omega, by go_num, rfl, e.symm, by omega, rfl, hflt, rfl, HS.out.on hB1, hB1.mono hb0, hB1.size, fun b hb _ => hB1.block b hb⟩)
    clear hflt
    go_enter Try.func40, Try.ntmps40
    go_wp2_with (go_at_call 44; (refine (idx_done _ ys bn bp nb o P t hold _ HL.out HS.out.at HC.out ht HY.out).mono ?_); rw [HR.out]; rintro en w1 ⟨rfl, hB1⟩; have HST1 := Lib.hid (HST w1 hB1); clear hB1 HST)
    go_loopw [5, 6] (fun i j wr => DelLoop base g cap n w (fun y => !doneB t hold y) ys i j wr) (fun _ j _ => n - (intOf j).toNat)
    case atStart => exact HST1.out.out
    case round =>
      obtain ⟨k, m, zs, hk, rfl, rfl, hm, hmk, hzl, hzt, hzd, ho, hBw, hsw, hkeep⟩ := hrel
      clear HST1
      have HM := Lib.hid hm
      have HZL := Lib.hid hzl
      have HZT := Lib.hid hzt
      have HZD := Lib.hid hzd
      have HO := Lib.hid ho
      have HBW := Lib.hid hBw
      have HKP := Lib.hid hkeep
      clear hm hzl hzt hzd ho hBw hkeep
      have hgr : g < wr.heap.size := by omega
      have hall : ∀ j, j < cap * 2 → (wr.cell? ⟨g, j, none⟩).isSome = true ∧ wr.frozen? ⟨g, j, none⟩ = false := by
        obtain ⟨g', cap', he, _, _, _, _, hf, _⟩ := HO.out.form (by rw [HZL.out, HN.out]; omega)
        simp only [Value.slice.injEq, Option.some.injEq, Addr.mk.injEq, and_true] at he
        obtain ⟨rfl, _, rfl⟩ := he
        exact hf
      have HALL := Lib.hid hall
      clear hall
      by_cases hkn : k < n
      · have hkz : k < zs.length := by rw [HZL.out, HN.out]; exact hkn
        have hky : k < ys.length := by rw [HN.out]; exact hkn
        have hmz : m < zs.length := by omega
        have hzk := get_of_drop HZD.out hkz hky
        have hcell : ∀ i (h : i < zs.length), wr.cell? ⟨g, i * 2, none⟩ = some (.int .i64 zs[i].t) ∧ wr.cell? ⟨g, i * 2 + 1, none⟩ = some (.slice zs[i].a zs[i].n zs[i].c) := by
          obtain ⟨g', cap', he, _, _, _, _, _, hcc⟩ := HO.out.form (by rw [HZL.out, HN.out]; omega)
          simp only [Value.slice.injEq, Option.some.injEq, Addr.mk.injEq, and_true] at he
          obtain ⟨rfl, _, rfl⟩ := he
          intro i hi
          exact cells2 (o := i * 2) (fun j u hu => hcc i hi j u hu)
        obtain ⟨q0, q1⟩ := hcell k hkz
        obtain ⟨p0, p1⟩ := hcell m hmz
        have f0 := (HALL.out (m * 2) (by omega)).2
        have f1 := (HALL.out (m * 2 + 1) (by omega)).2
        have hyk := HY.out _ (List.getElem_mem hky)
        rw [hzk] at q0 q1
        obtain ⟨y, hyy⟩ : ∃ y, ys[k] = y := ⟨_, rfl⟩
        rw [hyy] at q0 q1 hyk hzk
        have HYY := Lib.hid hyy
        have HZK := Lib.hid hzk
        clear hyy hcell hzk
        generalize zs[m] = zm at p0 p1
        obtain ⟨yt, ya, yn, yc⟩ := y
        simp only at hyk q0 q1
        obtain ⟨d, hd⟩ : ∃ d, doneB t hold ⟨yt, ya, yn, yc⟩ = d := ⟨_, rfl⟩
        have HPN := Lib.hid hd
        clear hd
        have HP0 := Lib.hid (And.intro p0 p1)
        have HF0 := Lib.hid (And.intro f0 f1)
        clear p0 p1 f0 f1
        have hcl : ClosAt wr bn bp nb o P t hold := by
          obtain ⟨c0, c1, c2, c3⟩ := HC.out
          have b0 := World.block_lt_of_cell? _ _ c0
          have b1 := World.block_lt_of_cell? _ _ c1
          have b2 := World.block_lt_of_cell? _ _ c2
          have b3 := World.block_lt_of_cell? _ _ c3
          exact ⟨(World.cell?_of_block (a := ⟨bn, 0, none⟩) (HKP.out bn b0 n1)).trans c0, (World.cell?_of_block (a := ⟨bp, 0, none⟩) (HKP.out bp b1 n2)).trans c1, (World.cell?_of_block (a := ⟨nb, o, none⟩) (HKP.out nb b2 n3)).trans c2, (World.cell?_of_block (a := ⟨P, 0, none⟩) (HKP.out P b3 n4)).trans c3⟩
        have HCL := Lib.hid hcl
        clear hcl
        have hfs := filter_take_succ (fun y => !doneB t hold y) ys k hky
        rw [HYY.out] at hfs
        cases d with
        | true =>
          have hfs2 : (ys.take (k + 1)).filter (fun y => !doneB t hold y) = (ys.take k).filter (fun y => !doneB t hold y) := by rw [hfs, HPN.out]; simp
          have HFS := Lib.hid hfs2
          clear hfs hfs2
          go_wp2_with ((refine (clos_any bn bp nb o P t hold ⟨yt, ya, yn, yc⟩ _ (HCL.out.on (by go_grown)) ht hyk).mono ?_); rw [HPN.out]; rintro e w2 ⟨rfl, hB1⟩; have HB1 : Hid (Below wr.heap.size wr w2) := m_below_on (by go_grown) hB1; clear hB1)
          go_roundw
          case rel => exact ⟨k + 1, m, zs, by omega, by go_num, rfl, by rw [HFS.out]; exact HM.out, by omega, HZL.out, by rw [HFS.out]; exact HZT.out, drop_succ_eq HZD.out, HO.out.on HB1.out, HBW.out.trans (HB1.out.mono (by omega)), Nat.le_trans hsw HB1.out.size, fun b hb hbg => (HB1.out.block b (by omega)).trans (HKP.out b hb hbg)⟩
          case measure => simp [intOf]; omega
        | false =>
          have hfs2 : (ys.take (k + 1)).filter (fun y => !doneB t hold y) = (ys.take k).filter (fun y => !doneB t hold y) ++ [⟨yt, ya, yn, yc⟩] := by rw [hfs, HPN.out]; simp
          have HFS := Lib.hid hfs2
          clear hfs hfs2
          have hx : g ≠ wr.heap.size := by omega
          go_wp2_with ((refine (clos_any bn bp nb o P t hold ⟨yt, ya, yn, yc⟩ _ (HCL.out.on (by go_grown)) ht hyk).mono ?_); rw [HPN.out]; rintro e w2 ⟨rfl, hB1⟩; have HBV := Lib.hid ((Blk.new (w := wr) (B := wr.heap.size) (T := 85) (cs := #[.int .i64 yt, .slice ya yn yc]) rfl).on hB1); have v0 : w2.cell? ⟨wr.heap.size, 0, none⟩ = some (.int .i64 yt) := HBV.out.cell 0; have v1 : w2.cell? ⟨wr.heap.size, 1, none⟩ = some (.slice ya yn yc) := HBV.out.cell 1; have HB1 : Hid (Below wr.heap.size wr w2) := m_below_on (by go_grown) hB1; clear hB1; have p0 := (HB1.out.cell (p := ⟨g, m * 2, none⟩) hgr).trans HP0.out.1; have p1 := (HB1.out.cell (p := ⟨g, m * 2 + 1, none⟩) hgr).trans HP0.out.2; have f0 := (HB1.out.frozen (p := ⟨g, m * 2, none⟩) hgr).trans HF0.out.1; have f1 := (HB1.out.frozen (p := ⟨g, m * 2 + 1, none⟩) hgr).trans HF0.out.2)
          go_roundw
          case rel =>
            have hO2 := (HO.out.on HB1.out).put m 0 hmz (by decide) ⟨yt, zs[m].a, zs[m].n, zs[m].c⟩ (.int .i64 yt) rfl
            have hO3 := hO2.put m 1 (by rw [List.length_set]; exact hmz) (by decide) ⟨yt, ya, yn, yc⟩ (.slice ya yn yc) (by rw [List.getElem_set_self]; rfl)
            rw [List.set_set] at hO3
            refine ⟨k + 1, m + 1, zs.set m ⟨yt, ya, yn, yc⟩, by omega, by go_num, by go_num, by rw [HFS.out, List.length_append, ← HM.out]; rfl, by omega, by rw [List.length_set]; exact HZL.out, by rw [set_take_app hmz, HZT.out, HFS.out], by rw [drop_set_ge (by omega)]; exact drop_succ_eq HZD.out, hO3, ?_, ?_, ?_⟩
            · exact ((HBW.out.trans (HB1.out.mono (by omega))).setCell (p := ⟨g, m * 2, none⟩) hgb _).setCell (p := ⟨g, m * 2 + 1, none⟩) hgb _
            · have := HB1.out.size; simp; omega
            · intro b hb hbg
              exact (Below.heap_setCell _ ⟨g, m * 2 + 1, none⟩ _ b hbg).trans ((Below.heap_setCell _ ⟨g, m * 2, none⟩ _ b hbg).trans ((HB1.out.block b (by omega)).trans (HKP.out b hb hbg)))
          case measure => simp [intOf]; omega
      · obtain rfl : k = n := by omega
        have hmcap : ¬ cap = m := by omega
        obtain ⟨zz, hzz, hclr⟩ := run_clear85 wr 0 g (m * 2) (k - m) (cap - m) (by omega) (fun j hj => (HALL.out _ (by omega)).1) (fun j hj => (HALL.out _ (by omega)).2)
        have hclr' : ∀ ty, (Builtin.clear_ #[81] ty #[.slice (some ⟨g, m * 2, none⟩) (k - m) (cap - m)]).run Try.prog wr = .ok (.tuple #[]) (wr.setCells g (m * 2) zz) := fun _ => hclr
        have HZZ := Lib.hid hzz
        clear hclr hzz
        have hmk' : (m : Int) ≤ k := by omega
        go_wp2
        go_ret
        have hty : ys.take k = ys := by rw [← HN.out, List.take_length]
        have hmm := HM.out
        have hzt := HZT.out
        rw [hty] at hmm hzt
        have hcut := (HO.out.cut (i := m) (by rw [HZL.out, HN.out]; omega))
        rw [hzt] at hcut
        have hD : DelF base g cap w (ys.filter fun y => !doneB t hold y) (.returned (.slice (some ⟨g, 0, none⟩) m cap)) (wr.setCells g (m * 2) zz) := by
          unfold DelF
          rw [← hmm]
          refine ⟨rfl, hcut.past (by rw [← hmm]; exact Nat.le_refl _) (by rw [HZZ.out]; show _ ≤ cap * 2; omega), HBW.out.trans (below_setCells hgb _ _ _), fun b hb hbg => (heap_setCells_ne _ _ _ _ hbg).trans (HKP.out b hb hbg)⟩
        exact hD
end Go.Proofs.Ytlphlmpfjpombaa
