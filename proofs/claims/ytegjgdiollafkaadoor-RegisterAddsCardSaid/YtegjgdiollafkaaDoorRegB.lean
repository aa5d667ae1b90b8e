/-
  The walk of register's number: the contracts of the library's ParseInt and FormatInt, and what number returns of any value.
-/
import Derived.Test.YtegjgdiollafkaaDoorRegA
import Derived.Lib.SmallJoins
namespace Go.Proofs.YtegjgdiollafkaaDoor
open Go.RowKit Go.Instr

/-- The worlds in which all that a world holds is as it was. -/
noncomputable def onto (w z : World) : World := @ite _ (Below w.heap.size w z) (Classical.propDecidable _) z w
theorem onto_below (w z : World) : Below w.heap.size w (onto w z) := by
  unfold onto
  split
  · assumption
  · exact Below.refl _ _
theorem onto_of {w z : World} (h : Below w.heap.size w z) : z = onto w z := by
  unfold onto
  rw [if_pos h]
theorem wp_region_onto {P : Program} {id : Nat} {Q : Exit → Act → World → Prop} {a : Act} {w : World} {l : List Oper} (hm : P.follows .mixedOrders = true) (hB : Region.lexB .any l.toArray = true)
    (h : wpQuiet P l.toArray (fun w' => ∃ z, w' = onto w z) (fun a' => ∀ w', (∃ z, w' = onto w z) → Q .normal a' w') l a) : (Code.region id l.toArray true).wp P Q a w :=
  wp_region_quiet (C := fun w' => ∃ z, w' = onto w z) hm hB ⟨w.drew, onto_of (Below.drew (Below.refl _ _))⟩ (by simpa using h)
theorem onto_calls {P : Program} {f : FuncId} {args : Array Value} {w z : World} {v : Value}
    (h : Calls P f args (onto w z) fun e w' => e = .returned v ∧ Below (onto w z).heap.size (onto w z) w') : Calls P f args (onto w z) fun e w'' => e = .returned v ∧ ∃ m, w'' = onto w m :=
  h.mono fun _ w' ⟨he, hB⟩ => ⟨he, w', onto_of (g_below_on (onto_below w z) hB)⟩
theorem onto_cell {w : World} {p : Addr} {v : Value} (h : w.cell? p = some v) : ∀ z, (onto w z).cell? p = some v := fun z =>
  ((onto_below w z).cell (World.block_lt_of_cell? _ _ h)).trans h
/-- Block B of the memory is known whole. -/
def Blk (w : World) (B : Nat) (cs : Array Value) (T : TypeId) : Prop := w.heap[B]? = some (.cells cs T)
theorem Blk.cell {w : World} {B : Nat} {cs : Array Value} {T : TypeId} (h : Blk w B cs T) (j : Nat) : w.cell? ⟨B, j, none⟩ = cs[j]? := cell_of_row w B j _ T (0, 0) h
theorem Blk.frozen {w : World} {B : Nat} {cs : Array Value} {T : TypeId} (h : Blk w B cs T) (j : Nat) : w.frozen? ⟨B, j, none⟩ = false := by
  unfold World.frozen?
  rw [h]
  simp
theorem Blk.lt {w : World} {B : Nat} {cs : Array Value} {T : TypeId} (h : Blk w B cs T) : B < w.heap.size := (Array.getElem?_eq_some_iff.1 h).1
theorem Blk.below {w w' : World} {B k : Nat} {cs : Array Value} {T : TypeId} (h : Blk w B cs T) (hB : Below k w w') (hk : B < k) : Blk w' B cs T := (hB.block B hk).trans h
theorem Blk.on {w w' : World} {B : Nat} {cs : Array Value} {T : TypeId} (h : Blk w B cs T) (hB : Below w.heap.size w w') : Blk w' B cs T := h.below hB h.lt
theorem Blk.alloc {w : World} {B : Nat} {cs : Array Value} {T : TypeId} (h : Blk w B cs T) (o : Obj) : Blk (w.alloc o) B cs T := by
  have := Below.heap_alloc w o B h.lt
  exact this.trans h
theorem Blk.set {w : World} {B : Nat} {cs : Array Value} {T : TypeId} (h : Blk w B cs T) (j : Nat) (v : Value) (cs' : Array Value) (hcs : cs.setIfInBounds j v = cs') : Blk (w.setCell ⟨B, j, none⟩ v) B cs' T := by
  unfold Blk at h ⊢
  subst hcs
  simp [World.setCell, Array.getElem?_modify, h]
theorem Blk.set_other {w : World} {B C : Nat} {cs : Array Value} {T : TypeId} (h : Blk w B cs T) (j : Nat) (v : Value) (hne : B ≠ C) : Blk (w.setCell ⟨C, j, none⟩ v) B cs T := by
  exact (Below.heap_setCell w ⟨C, j, none⟩ v B hne).trans h
theorem Blk.new {w : World} {B : Nat} {cs : Array Value} {T : TypeId} (h : B = w.heap.size) : Blk (w.alloc (.cells cs T)) B cs T := by
  subst h
  exact heap_alloc_new _ _
theorem Blk.dr {w : World} {B : Nat} {cs : Array Value} {T : TypeId} (h : Blk w B cs T) : Blk w.drew B cs T := h
theorem below_new (w : World) (q : Nat) (os : Array Obj) : Below w.heap.size w (Go.Sort.grow (w.drewN q) os) := by
  refine ⟨rfl, rfl, rfl, by simp [Go.Sort.grow], fun k hk => ?_⟩
  show (w.heap ++ os)[k]? = w.heap[k]?
  rw [Array.getElem?_append_left hk]
/-- The library's table and its two errors are there. -/
def Env (w : World) : Prop :=
  Lib.TabIs Tryd.prog w "internal/strconv.uint64pow10" .u64 Lib.pow10Tab ∧ (∃ tp p, w.var? Tryd.prog "strconv.ErrSyntax" = some #[.iface tp p]) ∧ (∃ tp p, w.var? Tryd.prog "strconv.ErrRange" = some #[.iface tp p])
theorem Env.on {w w' : World} (h : Env w) (hB : Below w.heap.size w w') : Env w' := by
  obtain ⟨h1, ⟨tp, p, h2⟩, ⟨tr, q, h3⟩⟩ := h
  exact ⟨Go.Joins.tab_stays (g := 0) (by kernel_rfl) h1 hB (Nat.le_refl _), ⟨tp, p, Go.Joins.var_stays (g := 1) (by kernel_rfl) h2 hB (Nat.le_refl _)⟩, ⟨tr, q, Go.Joins.var_stays (g := 2) (by kernel_rfl) h3 hB (Nat.le_refl _)⟩⟩
/-- The number of a value. -/
def numV (v : V) : Option Int := if v.has = true then numO v.s.data.toList else some 0
theorem itoa_ne {n : Int} {s : ByteArray} : (ByteArray.mk (Lib.itoa n).toArray).toList = s.toList ↔ Lib.itoa n = s.data.toList := by
  rw [ByteArray.toList_eq, ByteArray.toList_eq]
set_option maxHeartbeats 800000 in
theorem number_none (s : ByteArray) (w : World) : Calls Tryd.prog 18 #[.agg #[.bool false, .string s]] w fun en w' => en = .returned (.tuple #[.int .i64 0, .bool true]) ∧ Below w.heap.size w w' := by
  go_enter Tryd.func18, Tryd.ntmps18
  go_wp2
  go_ret2
  exact ⟨rfl, by go_grown⟩
set_option maxHeartbeats 800000 in
theorem number_bad (s : ByteArray) (w : World) (hs : s.size ≤ 1000000) (he : Env w) (h : ∀ n, Lib.atoiAll s.data.toList ≠ .ok n) : Calls Tryd.prog 18 #[.agg #[.bool true, .string s]] w fun en w' => en = .returned (.tuple #[.int .i64 0, .bool false]) ∧ Below w.heap.size w w' := by
  have hlim : s.size ≤ 281474976710656 := by omega
  have HE := Lib.hid he
  clear he
  have HC : ∀ W, Env W → Calls Tryd.prog 21 #[.string s, .int .i64 10, .int .i64 64] W fun e w' => ∃ m N, e = .returned (.tuple #[.int .i64 m, .iface 75 (.pointer (some ⟨N, 0, none⟩))]) ∧ Below W.heap.size W w' := by
    intro W hW
    obtain ⟨_, ⟨tp, p, h2⟩, ⟨tr, q, h3⟩⟩ := hW
    have hp : ∀ n, Lib.parseIntB 64 s.data.toList ≠ .ok n := fun n => by rw [Lib.parseIntB_64]; exact h n
    rcases hx : Lib.parseIntB 64 s.data.toList with v | _ | _
    · exact absurd hx (hp v)
    · exact (Any.strconv_ParseInt_10_at64_syntax_var Tryd.laysC174 s hlim hx tp p W h2).mono fun _ _ ⟨N, h1, _, _, h4⟩ => ⟨_, N, h1, h4⟩
    · exact (Any.strconv_ParseInt_10_at64_range_var Tryd.laysC174 s hlim hx tr q W h3).mono fun _ _ ⟨N, h1, _, _, h4⟩ => ⟨_, N, h1, h4⟩
  have HCH := Lib.hid HC
  clear HC h hlim
  go_enter Tryd.func18, Tryd.ntmps18
  go_wp2_with (go_at_call 21; refine (HCH.out _ (HE.out.on (by go_grown))).mono ?_; rintro e w1 ⟨m, N, rfl, hB⟩; have HB1 : Hid (Below w.heap.size w w1) := g_below_on (by go_grown) hB; clear hB)
  refine wp_region_onto (by kernel_rfl) (by kernel_rfl) ?_
  repeat (go_big_quiet_step (fail))
  refine wpQuiet_nil ?_
  intro _ hw'
  obtain ⟨z, hw''⟩ := hw'
  subst hw''
  have HZ := Lib.hid (onto_below w1 z)
  go_wp2
  go_ret2
  exact ⟨rfl, g_below_on HB1.out HZ.out⟩
set_option maxHeartbeats 800000 in
theorem number_ok (s : ByteArray) (n : Int) (w : World) (hs : s.size ≤ 1000000) (he : Env w) (h : Lib.atoiAll s.data.toList = .ok n) : Calls Tryd.prog 18 #[.agg #[.bool true, .string s]] w fun en w' => en = .returned (.tuple #[.int .i64 (if Lib.itoa n = s.data.toList then n else 0), .bool (decide (Lib.itoa n = s.data.toList))]) ∧ Below w.heap.size w w' := by
  have hlim : s.size ≤ 9223372036854775806 := by omega
  have HE := Lib.hid he
  have hn := atoi_in h
  have HN := Lib.hid hn
  clear he
  have HC : ∀ W, Calls Tryd.prog 21 #[.string s, .int .i64 10, .int .i64 64] W fun e w' => e = .returned (.tuple #[.int .i64 n, .nilIface]) ∧ Below W.heap.size W w' := by
    intro W
    refine (Any.strconv_ParseInt_10_at64_ok Tryd.laysC174 s hlim n (by rw [Lib.parseIntB_64]; exact h) W).mono fun _ _ ⟨h1, h2⟩ => ⟨h1, ?_⟩
    rcases h2 with rfl | ⟨t, rfl⟩
    · exact Below.refl _ _
    · exact Go.Joins.below_bytesWorld _ _ _ _ (Nat.le_refl _)
  have HF : ∀ W, Env W → Calls Tryd.prog 20 #[.int .i64 n, .int .i64 10] W fun e w' => e = .returned (.string ⟨(Lib.itoa n).toArray⟩) ∧ Below W.heap.size W w' := by
    intro W hW
    refine (Tryd.strconv_FormatInt_10 n hn.1 hn.2 W hW.1).mono fun _ _ ⟨h1, k, os, h2⟩ => ⟨h1, ?_⟩
    rw [h2]
    exact below_new W k os
  have HCH := Lib.hid HC
  have HFH := Lib.hid HF
  obtain ⟨t, ht⟩ : ∃ t : ByteArray, t = ⟨(Lib.itoa n).toArray⟩ := ⟨_, rfl⟩
  have HT : Hid (t.toList = s.toList ↔ Lib.itoa n = s.data.toList) := by
    unfold Hid; rw [ht, itoa_ne]
  rw [← ht] at HFH
  clear HC HF h hlim hn ht
  by_cases hq : Lib.itoa n = s.data.toList
  · rw [if_pos hq, decide_eq_true hq]
    have hbb : (t.toList == s.toList) = true := beq_iff_eq.2 (HT.out.2 hq)
    clear hq
    go_enter Tryd.func18, Tryd.ntmps18
    go_wp2_with (go_at_call 21; refine (HCH.out _).mono ?_; rintro e w1 ⟨rfl, hB⟩; have HB1 : Hid (Below w.heap.size w w1) := g_below_on (by go_grown) hB; have HX : Hid (w1.cell? ⟨w.heap.size, 1, none⟩ = some (.string s)) := (hB.cell (p := ⟨w.heap.size, 1, none⟩) (by simp)).trans (by simp); clear hB)
    have x1 := onto_cell HX.out
    have HE1 := Lib.hid (HE.out.on HB1.out)
    clear HX HE
    refine wp_region_onto (by kernel_rfl) (by kernel_rfl) ?_
    repeat (go_big_quiet_step ((go_at_call 20; exact onto_calls (HFH.out _ (HE1.out.on (onto_below _ _))))))
    refine wpQuiet_nil ?_
    intro _ hw'
    obtain ⟨z, hw''⟩ := hw'
    subst hw''
    have HZ := Lib.hid (onto_below w1 z)
    clear x1
    go_wp2
    go_ret2
    exact ⟨rfl, g_below_on HB1.out HZ.out⟩
  · rw [if_neg hq, decide_eq_false hq]
    have hbb : (t.toList == s.toList) = false := by rw [Bool.eq_false_iff]; intro h; exact hq (HT.out.1 (beq_iff_eq.1 h))
    clear hq
    go_enter Tryd.func18, Tryd.ntmps18
    go_wp2_with (go_at_call 21; refine (HCH.out _).mono ?_; rintro e w1 ⟨rfl, hB⟩; have HB1 : Hid (Below w.heap.size w w1) := g_below_on (by go_grown) hB; have HX : Hid (w1.cell? ⟨w.heap.size, 1, none⟩ = some (.string s)) := (hB.cell (p := ⟨w.heap.size, 1, none⟩) (by simp)).trans (by simp); clear hB)
    have x1 := onto_cell HX.out
    have HE1 := Lib.hid (HE.out.on HB1.out)
    clear HX HE
    refine wp_region_onto (by kernel_rfl) (by kernel_rfl) ?_
    repeat (go_big_quiet_step ((go_at_call 20; exact onto_calls (HFH.out _ (HE1.out.on (onto_below _ _))))))
    refine wpQuiet_nil ?_
    intro _ hw'
    obtain ⟨z, hw''⟩ := hw'
    subst hw''
    have HZ := Lib.hid (onto_below w1 z)
    clear x1
    go_wp2
    go_ret2
    exact ⟨rfl, g_below_on HB1.out HZ.out⟩
/-- The number of a value, and whether it has one. -/
theorem number_any (v : V) (w : World) (hs : v.s.size ≤ 1000000) (he : Env w) : Calls Tryd.prog 18 #[.agg (vC v)] w fun en w' => en = .returned (.tuple #[.int .i64 ((numV v).getD 0), .bool (numV v).isSome]) ∧ Below w.heap.size w w' := by
  obtain ⟨has, s⟩ := v
  cases has with
  | false => exact number_none s w
  | true =>
    unfold numV numO
    simp only [if_true]
    rcases h : Lib.atoiAll s.data.toList with n | _ | _
    · refine (number_ok s n w hs he h).mono fun _ _ ⟨h1, h2⟩ => ⟨h1.trans ?_, h2⟩
      by_cases hq : Lib.itoa n = s.data.toList
      · simp [hq]
      · simp [hq]
    · exact number_bad s w hs he (fun n hn => by rw [h] at hn; cases hn)
    · exact number_bad s w hs he (fun n hn => by rw [h] at hn; cases hn)
end Go.Proofs.YtegjgdiollafkaaDoor
