/-
  The walk of view's change.
-/
import Derived.Test.YtkgahhfemlebmaaViewE
namespace Go.Proofs.Ytkgahhfemlebmaa
open Go.RowKit Go.Instr

/-- The worlds in which all that a world holds is as it was. -/
noncomputable def onto (w z : World) : World := @ite _ (Below w.heap.size w z) (Classical.propDecidable _) z w
theorem onto_below (w z : World) : Below w.heap.size w (onto w z) := by
  unfold onto
  split
  · assumption
  · exact Below.refl _ _
theorem onto_of {w z : World} (h : Below w.heap.size w z) : z = onto w z := by
  unfold onto
  rw [if_pos h]
theorem wp_region_onto {P : Program} {id : Nat} {Q : Exit → Act → World → Prop} {a : Act} {w : World} {l : List Oper} (hm : P.follows .mixedOrders = true) (hB : Region.lexB .any l.toArray = true)
    (h : wpQuiet P l.toArray (fun w' => ∃ z, w' = onto w z) (fun a' => ∀ w', (∃ z, w' = onto w z) → Q .normal a' w') l a) : (Code.region id l.toArray true).wp P Q a w :=
  wp_region_quiet (C := fun w' => ∃ z, w' = onto w z) hm hB ⟨w.drew, onto_of (Below.drew (Below.refl _ _))⟩ (by simpa using h)
theorem onto_calls {P : Program} {f : FuncId} {args : Array Value} {w z : World} {v : Value}
    (h : Calls P f args (onto w z) fun e w' => e = .returned v ∧ Below (onto w z).heap.size (onto w z) w') : Calls P f args (onto w z) fun e w'' => e = .returned v ∧ ∃ m, w'' = onto w m :=
  h.mono fun _ w' ⟨he, hB⟩ => ⟨he, w', onto_of (m_below_on (onto_below w z) hB)⟩
theorem onto_cell {w : World} {p : Addr} {v : Value} (h : w.cell? p = some v) : ∀ z, (onto w z).cell? p = some v := fun z =>
  ((onto_below w z).cell (World.block_lt_of_cell? _ _ h)).trans h
/-- A view. -/
structure Vw where
  e : Nat
  lv : Lv
  l : List Mem
/-- A command. -/
structure Cmd where
  k : Nat
  n : Nat
  l : Nat
  e : Nat
  r : Nat
def Cmd.fine (c : Cmd) : Prop := c.k < 256 ∧ c.n < 256 ∧ c.l < 256 ∧ c.e < 4294967296 ∧ c.r < 4294967296
abbrev cC (c : Cmd) : Array Value := #[.int .u8 c.k, .int .u8 c.n, .int .u8 c.l, .int .u32 c.e, .int .u32 c.r]
/-- The view behind a command, and whether it holds. -/
def Vw.apply (v : Vw) (c : Cmd) : Vw × Bool :=
  if c.k = 0 then (v, true)
  else if c.k = 1 then if freeB c.n c.l v.lv v.l = true ∧ v.e ≠ 4294967295 then (⟨v.e + 1, v.lv.set (c.n - 1) c.l, v.l ++ [⟨c.n, c.l, false⟩]⟩, true) else (v, false)
  else if c.k = 2 then if 0 ≤ idxOf (isBoth c.n c.l) v.l ∧ remB v.e v.l (idxOf (isBoth c.n c.l) v.l).toNat = true then (⟨v.e + 1, v.lv, v.l.eraseIdx (idxOf (isBoth c.n c.l) v.l).toNat⟩, true) else (v, false)
  else if c.k = 3 then if 0 ≤ idxOf (isBoth c.n c.l) v.l then (⟨v.e, v.lv, v.l.modify (idxOf (isBoth c.n c.l) v.l).toNat fun m => { m with r := true }⟩, true) else (v, false)
  else if c.k = 4 then (v, decide (0 ≤ idxOf (isBoth c.n c.l) v.l ∧ c.e = v.e))
  else (v, false)
/-- What a change of the view in block B leaves. -/
def ChgV (base B : Nat) (w : World) (r : Vw × Bool) (en : Ending) (w' : World) : Prop := ChgP base B w r.2 r.1.e r.1.lv r.1.l en w'
theorem chg_same {base B e : Nat} {s : Value} {lv : Lv} {l : List Mem} {w w' : World} (r : Bool) (hv : Blk w' B (vC e s lv) 28) (hs : MemsAt w' s l) (hB : Below w.heap.size w w') (hb : base ≤ w.heap.size) : ChgP base B w r e lv l (.returned (.bool r)) w' :=
  ⟨s, rfl, hv, hs, .of_below (hB.mono hb)⟩
/-- What stands where the command is looked at: the view's block, its members, and that all older blocks are as they were. -/
structure ChgAt (base B : Nat) (w w2 : World) (e : Nat) (s : Value) (lv : Lv) (l : List Mem) : Prop where
  v : Blk w2 B (vC e s lv) 28
  o : OwnM w2 base s l
  b : Below w.heap.size w w2
theorem ChgAt.on {base B : Nat} {w w2 w3 : World} {e : Nat} {s : Value} {lv : Lv} {l : List Mem} (h : ChgAt base B w w2 e s lv l) (hB : Below w2.heap.size w2 w3) : ChgAt base B w w3 e s lv l := ⟨h.v.on hB, h.o.on hB, m_below_on h.b hB⟩
theorem ChgAt.al {base B : Nat} {w w2 : World} {e : Nat} {s : Value} {lv : Lv} {l : List Mem} (h : ChgAt base B w w2 e s lv l) (o : Obj) : ChgAt base B w (w2.alloc o) e s lv l := h.on (by go_grown)
theorem chg_same' {base B e : Nat} {s : Value} {lv : Lv} {l : List Mem} {w w' : World} (r : Bool) {r' : Bool} (hr : r' = r) (hv : Blk w' B (vC e s lv) 28) (hs : MemsAt w' s l) (hB : Below w.heap.size w w') (hb : base ≤ w.heap.size) : ChgP base B w r e lv l (.returned (.bool r')) w' := by
  subst hr
  exact chg_same r' hv hs hB hb
theorem at_is (e : Nat) (s : Value) (lv : Lv) (l : List Mem) (node life : Nat) (r : Int) (w : World) (hl : l.length ≤ 40) (hs : MemsAt w s l) (hr : idxOf (isBoth node life) l = r) :
    Calls Try.prog 26 #[.agg (vC e s lv), .int .u8 node, .int .u8 life] w fun en w' => en = .returned (.int .i64 r) ∧ Below w.heap.size w w' := by
  subst hr
  exact at_any e s lv l node life w hl hs
theorem ChgP.from {base B : Nat} {w w2 : World} {ok : Bool} {e : Nat} {lv : Lv} {l : List Mem} {en : Ending} {w' : World} (h : ChgP base B w2 ok e lv l en w') (hB : Below w.heap.size w w2) (hb : base ≤ w.heap.size) : ChgP base B w ok e lv l en w' := by
  obtain ⟨s, h1, h2, h3, h4⟩ := h
  exact ⟨s, h1, h2, h3, (KB.of_below (hB.mono hb)).trans h4⟩
theorem ChgAt.size {base B : Nat} {w w2 : World} {e : Nat} {s : Value} {lv : Lv} {l : List Mem} (h : ChgAt base B w w2 e s lv l) (hb : base ≤ w.heap.size) : base ≤ w2.heap.size := by have := h.b.size; omega
theorem MemsAt.settle {w : World} {g n cap : Nat} {l : List Mem} {i : Nat} (h : MemsAt w (.slice (some ⟨g, 0, none⟩) n cap) l) : MemsAt (w.setCell ⟨g, i * 3 + 2, none⟩ (.bool true)) (.slice (some ⟨g, 0, none⟩) n cap) (l.modify i fun m => { m with r := true }) := by
  have hat := MemsAt.at h
  rcases h with ⟨h, _⟩ | ⟨b', off', cap', he, hb, hc⟩
  · cases h
  · simp only [Value.slice.injEq, Option.some.injEq, Addr.mk.injEq] at he
    obtain ⟨⟨rfl, rfl, _⟩, rfl, rfl⟩ := he
    refine .inr ⟨g, 0, cap, by rw [List.length_modify], by simpa using hb, fun j hj => ?_⟩
    rw [List.length_modify] at hj
    obtain ⟨c0, c1, c2⟩ := hat j hj
    have e0 : ∀ o, o ≠ i * 3 + 2 → (w.setCell ⟨g, i * 3 + 2, none⟩ (.bool true)).cell? ⟨g, o, none⟩ = w.cell? ⟨g, o, none⟩ := fun o ho => World.cell?_setCell_other w _ _ _ (fun e => by cases e; exact ho rfl)
    rw [Nat.zero_add, e0 _ (by omega), e0 _ (by omega), c0, c1]
    rw [List.getElem_modify]
    by_cases hij : i = j
    · subst hij
      rw [if_pos rfl]
      exact ⟨rfl, rfl, World.cell?_setCell_same _ _ _ c2⟩
    · rw [if_neg hij]
      exact ⟨rfl, rfl, by rw [e0 _ (by omega)]; exact c2⟩
set_option maxHeartbeats 1000000 in
theorem change_0 (base B e : Nat) (s : Value) (lv : Lv) (l : List Mem) (cn cl ce cr : Nat) (w : World) (hl : l.length ≤ 40) (hv : Blk w B (vC e s lv) 28) (hs : OwnM w base s l) (hbw : base ≤ w.heap.size) :
    Calls Try.prog 21 #[.pointer (some ⟨B, 0, none⟩), .agg #[.int .u8 0, .int .u8 cn, .int .u8 cl, .int .u32 ce, .int .u32 cr]] w (ChgP base B w true e lv l) := by
  have HA := Lib.hid ((ChgAt.mk hv hs (Below.refl _ _)).al (.cells #[.int .u8 0, .int .u8 cn, .int .u8 cl, .int .u32 ce, .int .u32 cr] 42))
  have HC : Hid (Blk (w.alloc (.cells #[.int .u8 0, .int .u8 cn, .int .u8 cl, .int .u32 ce, .int .u32 cr] 42)) w.heap.size #[.int .u8 0, .int .u8 cn, .int .u8 cl, .int .u32 ce, .int .u32 cr] 42) := Lib.hid (Blk.new rfl)
  have HL := Lib.hid hl
  clear hv hs hl
  go_enter Try.func21, Try.ntmps21
  go_wp2_with fail
  generalize w.alloc (.cells #[.int .u8 0, .int .u8 cn, .int .u8 cl, .int .u32 ce, .int .u32 cr] 42) = w1 at *
  obtain ⟨W, hWW⟩ : ∃ W, W = w.heap.size := ⟨_, rfl⟩
  rw [← hWW] at HC
  simp only [← hWW]
  clear hWW
  obtain ⟨d0, d1, d2, d3, d4, d5, d6, d7, d8, d9⟩ := HA.out.v.ten
  have d0 := onto_cell d0
  have d1 := onto_cell d1
  have d2 := onto_cell d2
  have d3 := onto_cell d3
  have d4 := onto_cell d4
  have d5 := onto_cell d5
  have d6 := onto_cell d6
  have d7 := onto_cell d7
  have d8 := onto_cell d8
  have d9 := onto_cell d9
  have c1 := onto_cell (HC.out.cell 1)
  have c2 := onto_cell (HC.out.cell 2)
  refine wp_region_onto (by kernel_rfl) (by kernel_rfl) ?_
  repeat (go_big_quiet_step ((go_at_call 26; exact onto_calls (at_any _ _ _ l _ _ _ HL.out (HA.out.o.mems.on (onto_below _ _))))))
  refine wpQuiet_nil ?_
  intro _ hw'
  obtain ⟨z, hw''⟩ := hw'
  subst hw''
  have HA2 := Lib.hid (HA.out.on (onto_below w1 z))
  have HC2 := Lib.hid (HC.out.on (onto_below w1 z))
  clear d0 d1 d2 d3 d4 d5 d6 d7 d8 d9 c1 c2
  generalize onto w1 z = w2 at *
  clear HA HC
  have c0 := HC2.out.cell 0
  have c1 := HC2.out.cell 1
  have c2 := HC2.out.cell 2
  have c3 := HC2.out.cell 3
  simp at c0 c1 c2 c3
  go_wp2
  go_ret
  exact chg_same true HA2.out.v HA2.out.o.mems HA2.out.b hbw
set_option maxHeartbeats 1000000 in
theorem change_x (base B e : Nat) (s : Value) (lv : Lv) (l : List Mem) (kk cn cl ce cr : Nat) (w : World) (hl : l.length ≤ 40) (hv : Blk w B (vC e s lv) 28) (hs : OwnM w base s l) (hbw : base ≤ w.heap.size) (hk : 5 ≤ kk) :
    Calls Try.prog 21 #[.pointer (some ⟨B, 0, none⟩), .agg #[.int .u8 kk, .int .u8 cn, .int .u8 cl, .int .u32 ce, .int .u32 cr]] w (ChgP base B w false e lv l) := by
  have HA := Lib.hid ((ChgAt.mk hv hs (Below.refl _ _)).al (.cells #[.int .u8 kk, .int .u8 cn, .int .u8 cl, .int .u32 ce, .int .u32 cr] 42))
  have HC : Hid (Blk (w.alloc (.cells #[.int .u8 kk, .int .u8 cn, .int .u8 cl, .int .u32 ce, .int .u32 cr] 42)) w.heap.size #[.int .u8 kk, .int .u8 cn, .int .u8 cl, .int .u32 ce, .int .u32 cr] 42) := Lib.hid (Blk.new rfl)
  have HL := Lib.hid hl
  clear hv hs hl
  go_enter Try.func21, Try.ntmps21
  go_wp2_with fail
  generalize w.alloc (.cells #[.int .u8 kk, .int .u8 cn, .int .u8 cl, .int .u32 ce, .int .u32 cr] 42) = w1 at *
  obtain ⟨W, hWW⟩ : ∃ W, W = w.heap.size := ⟨_, rfl⟩
  rw [← hWW] at HC
  simp only [← hWW]
  clear hWW
  obtain ⟨d0, d1, d2, d3, d4, d5, d6, d7, d8, d9⟩ := HA.out.v.ten
  have d0 := onto_cell d0
  have d1 := onto_cell d1
  have d2 := onto_cell d2
  have d3 := onto_cell d3
  have d4 := onto_cell d4
  have d5 := onto_cell d5
  have d6 := onto_cell d6
  have d7 := onto_cell d7
  have d8 := onto_cell d8
  have d9 := onto_cell d9
  have c1 := onto_cell (HC.out.cell 1)
  have c2 := onto_cell (HC.out.cell 2)
  refine wp_region_onto (by kernel_rfl) (by kernel_rfl) ?_
  repeat (go_big_quiet_step ((go_at_call 26; exact onto_calls (at_any _ _ _ l _ _ _ HL.out (HA.out.o.mems.on (onto_below _ _))))))
  refine wpQuiet_nil ?_
  intro _ hw'
  obtain ⟨z, hw''⟩ := hw'
  subst hw''
  have HA2 := Lib.hid (HA.out.on (onto_below w1 z))
  have HC2 := Lib.hid (HC.out.on (onto_below w1 z))
  clear d0 d1 d2 d3 d4 d5 d6 d7 d8 d9 c1 c2
  generalize onto w1 z = w2 at *
  clear HA HC
  have c0 := HC2.out.cell 0
  have c1 := HC2.out.cell 1
  have c2 := HC2.out.cell 2
  have c3 := HC2.out.cell 3
  simp at c0 c1 c2 c3
  go_wp2
  go_ret
  exact chg_same false HA2.out.v HA2.out.o.mems HA2.out.b hbw
set_option maxHeartbeats 1000000 in
theorem change_1n (base B e : Nat) (s : Value) (lv : Lv) (l : List Mem) (cn cl ce cr : Nat) (w : World) (hl : l.length ≤ 40) (hv : Blk w B (vC e s lv) 28) (hs : OwnM w base s l) (hbw : base ≤ w.heap.size) (hn8 : cn < 256) (hlf : cl < 256) (hno : freeB cn cl lv l = false ∨ e = 4294967295) :
    Calls Try.prog 21 #[.pointer (some ⟨B, 0, none⟩), .agg #[.int .u8 1, .int .u8 cn, .int .u8 cl, .int .u32 ce, .int .u32 cr]] w (ChgP base B w false e lv l) := by
  have HA := Lib.hid ((ChgAt.mk hv hs (Below.refl _ _)).al (.cells #[.int .u8 1, .int .u8 cn, .int .u8 cl, .int .u32 ce, .int .u32 cr] 42))
  have HC : Hid (Blk (w.alloc (.cells #[.int .u8 1, .int .u8 cn, .int .u8 cl, .int .u32 ce, .int .u32 cr] 42)) w.heap.size #[.int .u8 1, .int .u8 cn, .int .u8 cl, .int .u32 ce, .int .u32 cr] 42) := Lib.hid (Blk.new rfl)
  have HL := Lib.hid hl
  have HNO := Lib.hid hno
  clear hno
  clear hv hs hl
  go_enter Try.func21, Try.ntmps21
  go_wp2_with fail
  generalize w.alloc (.cells #[.int .u8 1, .int .u8 cn, .int .u8 cl, .int .u32 ce, .int .u32 cr] 42) = w1 at *
  obtain ⟨W, hWW⟩ : ∃ W, W = w.heap.size := ⟨_, rfl⟩
  rw [← hWW] at HC
  simp only [← hWW]
  clear hWW
  obtain ⟨d0, d1, d2, d3, d4, d5, d6, d7, d8, d9⟩ := HA.out.v.ten
  have d0 := onto_cell d0
  have d1 := onto_cell d1
  have d2 := onto_cell d2
  have d3 := onto_cell d3
  have d4 := onto_cell d4
  have d5 := onto_cell d5
  have d6 := onto_cell d6
  have d7 := onto_cell d7
  have d8 := onto_cell d8
  have d9 := onto_cell d9
  have c1 := onto_cell (HC.out.cell 1)
  have c2 := onto_cell (HC.out.cell 2)
  refine wp_region_onto (by kernel_rfl) (by kernel_rfl) ?_
  repeat (go_big_quiet_step ((go_at_call 26; exact onto_calls (at_any _ _ _ l _ _ _ HL.out (HA.out.o.mems.on (onto_below _ _))))))
  refine wpQuiet_nil ?_
  intro _ hw'
  obtain ⟨z, hw''⟩ := hw'
  subst hw''
  have HA2 := Lib.hid (HA.out.on (onto_below w1 z))
  have HC2 := Lib.hid (HC.out.on (onto_below w1 z))
  clear d0 d1 d2 d3 d4 d5 d6 d7 d8 d9 c1 c2
  generalize onto w1 z = w2 at *
  clear HA HC
  have c0 := HC2.out.cell 0
  have c1 := HC2.out.cell 1
  have c2 := HC2.out.cell 2
  have c3 := HC2.out.cell 3
  simp at c0 c1 c2 c3
  go_wp2_with (go_at_call 27; (refine (add_no base B e s lv l cn cl _ HL.out hn8 hlf HA2.out.v HA2.out.o.mems (HA2.out.size hbw) HNO.out).mono ?_); intro en w3 hch; have HR := Lib.hid (ChgP.from hch HA2.out.b hbw); clear hch; obtain ⟨_, rfl, _⟩ := HR.out)
  go_ret
  exact HR.out
set_option maxHeartbeats 1000000 in
theorem change_1y (base B e : Nat) (s : Value) (lv : Lv) (l : List Mem) (cn cl ce cr : Nat) (w : World) (hl : l.length ≤ 40) (hv : Blk w B (vC e s lv) 28) (hs : OwnM w base s l) (hbw : base ≤ w.heap.size) (hk8 : cn < 8) (hlf : cl < 256) (he : e < 4294967295) (hyes : freeB (cn + 1) cl lv l = true) :
    Calls Try.prog 21 #[.pointer (some ⟨B, 0, none⟩), .agg #[.int .u8 1, .int .u8 (cn + 1), .int .u8 cl, .int .u32 ce, .int .u32 cr]] w (ChgP base B w true (e + 1) (lv.set cn cl) (l ++ [⟨cn + 1, cl, false⟩])) := by
  have HA := Lib.hid ((ChgAt.mk hv hs (Below.refl _ _)).al (.cells #[.int .u8 1, .int .u8 (cn + 1), .int .u8 cl, .int .u32 ce, .int .u32 cr] 42))
  have HC : Hid (Blk (w.alloc (.cells #[.int .u8 1, .int .u8 (cn + 1), .int .u8 cl, .int .u32 ce, .int .u32 cr] 42)) w.heap.size #[.int .u8 1, .int .u8 (cn + 1), .int .u8 cl, .int .u32 ce, .int .u32 cr] 42) := Lib.hid (Blk.new rfl)
  have HL := Lib.hid hl
  have HYES := Lib.hid hyes
  clear hyes
  clear hv hs hl
  go_enter Try.func21, Try.ntmps21
  go_wp2_with fail
  generalize w.alloc (.cells #[.int .u8 1, .int .u8 (cn + 1), .int .u8 cl, .int .u32 ce, .int .u32 cr] 42) = w1 at *
  obtain ⟨W, hWW⟩ : ∃ W, W = w.heap.size := ⟨_, rfl⟩
  rw [← hWW] at HC
  simp only [← hWW]
  clear hWW
  obtain ⟨d0, d1, d2, d3, d4, d5, d6, d7, d8, d9⟩ := HA.out.v.ten
  have d0 := onto_cell d0
  have d1 := onto_cell d1
  have d2 := onto_cell d2
  have d3 := onto_cell d3
  have d4 := onto_cell d4
  have d5 := onto_cell d5
  have d6 := onto_cell d6
  have d7 := onto_cell d7
  have d8 := onto_cell d8
  have d9 := onto_cell d9
  have c1 := onto_cell (HC.out.cell 1)
  have c2 := onto_cell (HC.out.cell 2)
  refine wp_region_onto (by kernel_rfl) (by kernel_rfl) ?_
  repeat (go_big_quiet_step ((go_at_call 26; exact onto_calls (at_any _ _ _ l _ _ _ HL.out (HA.out.o.mems.on (onto_below _ _))))))
  refine wpQuiet_nil ?_
  intro _ hw'
  obtain ⟨z, hw''⟩ := hw'
  subst hw''
  have HA2 := Lib.hid (HA.out.on (onto_below w1 z))
  have HC2 := Lib.hid (HC.out.on (onto_below w1 z))
  clear d0 d1 d2 d3 d4 d5 d6 d7 d8 d9 c1 c2
  generalize onto w1 z = w2 at *
  clear HA HC
  have c0 := HC2.out.cell 0
  have c1 := HC2.out.cell 1
  have c2 := HC2.out.cell 2
  have c3 := HC2.out.cell 3
  simp at c0 c1 c2 c3
  go_wp2_with (go_at_call 27; (refine (add_yes base B e s lv l cn cl _ HL.out hk8 hlf he HA2.out.v HA2.out.o (HA2.out.size hbw) HYES.out).mono ?_); intro en w3 hch; have HR := Lib.hid (ChgP.from hch HA2.out.b hbw); clear hch; obtain ⟨_, rfl, _⟩ := HR.out)
  go_ret
  exact HR.out
set_option maxHeartbeats 1000000 in
theorem change_2y (base B e : Nat) (s : Value) (lv : Lv) (l : List Mem) (cn cl ce cr : Nat) (w : World) (hl : l.length ≤ 40) (hv : Blk w B (vC e s lv) 28) (hs : OwnM w base s l) (hbw : base ≤ w.heap.size) (i : Nat) (hx : idxOf (isBoth cn cl) l = (i : Nat)) (hi : i < l.length) (he : e < 4294967296) (hyes : remB e l i = true) :
    Calls Try.prog 21 #[.pointer (some ⟨B, 0, none⟩), .agg #[.int .u8 2, .int .u8 cn, .int .u8 cl, .int .u32 ce, .int .u32 cr]] w (ChgP base B w true (e + 1) lv (l.eraseIdx i)) := by
  have HA := Lib.hid ((ChgAt.mk hv hs (Below.refl _ _)).al (.cells #[.int .u8 2, .int .u8 cn, .int .u8 cl, .int .u32 ce, .int .u32 cr] 42))
  have HC : Hid (Blk (w.alloc (.cells #[.int .u8 2, .int .u8 cn, .int .u8 cl, .int .u32 ce, .int .u32 cr] 42)) w.heap.size #[.int .u8 2, .int .u8 cn, .int .u8 cl, .int .u32 ce, .int .u32 cr] 42) := Lib.hid (Blk.new rfl)
  have HL := Lib.hid hl
  have HX := Lib.hid hx
  clear hx
  have HYES := Lib.hid hyes
  have HI := Lib.hid hi
  clear hyes hi
  clear hv hs hl
  go_enter Try.func21, Try.ntmps21
  go_wp2_with fail
  generalize w.alloc (.cells #[.int .u8 2, .int .u8 cn, .int .u8 cl, .int .u32 ce, .int .u32 cr] 42) = w1 at *
  obtain ⟨W, hWW⟩ : ∃ W, W = w.heap.size := ⟨_, rfl⟩
  rw [← hWW] at HC
  simp only [← hWW]
  clear hWW
  obtain ⟨d0, d1, d2, d3, d4, d5, d6, d7, d8, d9⟩ := HA.out.v.ten
  have d0 := onto_cell d0
  have d1 := onto_cell d1
  have d2 := onto_cell d2
  have d3 := onto_cell d3
  have d4 := onto_cell d4
  have d5 := onto_cell d5
  have d6 := onto_cell d6
  have d7 := onto_cell d7
  have d8 := onto_cell d8
  have d9 := onto_cell d9
  have c1 := onto_cell (HC.out.cell 1)
  have c2 := onto_cell (HC.out.cell 2)
  refine wp_region_onto (by kernel_rfl) (by kernel_rfl) ?_
  repeat (go_big_quiet_step ((go_at_call 26; exact onto_calls (at_is _ _ _ l _ _ (i : Nat) _ HL.out (HA.out.o.mems.on (onto_below _ _)) HX.out))))
  refine wpQuiet_nil ?_
  intro _ hw'
  obtain ⟨z, hw''⟩ := hw'
  subst hw''
  have HA2 := Lib.hid (HA.out.on (onto_below w1 z))
  have HC2 := Lib.hid (HC.out.on (onto_below w1 z))
  clear d0 d1 d2 d3 d4 d5 d6 d7 d8 d9 c1 c2
  generalize onto w1 z = w2 at *
  clear HA HC
  have c0 := HC2.out.cell 0
  have c1 := HC2.out.cell 1
  have c2 := HC2.out.cell 2
  have c3 := HC2.out.cell 3
  simp at c0 c1 c2 c3
  go_wp2_with (go_at_call 28; (refine (remove_yes base B e s lv l i _ HL.out HA2.out.v HA2.out.o (HA2.out.size hbw) HI.out he HYES.out).mono ?_); intro en w3 hch; have HR := Lib.hid (ChgP.from hch HA2.out.b hbw); clear hch; obtain ⟨_, rfl, _⟩ := HR.out)
  go_ret
  exact HR.out
set_option maxHeartbeats 1000000 in
theorem change_2n (base B e : Nat) (s : Value) (lv : Lv) (l : List Mem) (cn cl ce cr : Nat) (w : World) (hl : l.length ≤ 40) (hv : Blk w B (vC e s lv) 28) (hs : OwnM w base s l) (hbw : base ≤ w.heap.size) (i : Nat) (hx : idxOf (isBoth cn cl) l = (i : Nat)) (hi : i < l.length) (he : e < 4294967296) (hyes : remB e l i = false) :
    Calls Try.prog 21 #[.pointer (some ⟨B, 0, none⟩), .agg #[.int .u8 2, .int .u8 cn, .int .u8 cl, .int .u32 ce, .int .u32 cr]] w (ChgP base B w false e lv l) := by
  have HA := Lib.hid ((ChgAt.mk hv hs (Below.refl _ _)).al (.cells #[.int .u8 2, .int .u8 cn, .int .u8 cl, .int .u32 ce, .int .u32 cr] 42))
  have HC : Hid (Blk (w.alloc (.cells #[.int .u8 2, .int .u8 cn, .int .u8 cl, .int .u32 ce, .int .u32 cr] 42)) w.heap.size #[.int .u8 2, .int .u8 cn, .int .u8 cl, .int .u32 ce, .int .u32 cr] 42) := Lib.hid (Blk.new rfl)
  have HL := Lib.hid hl
  have HX := Lib.hid hx
  clear hx
  have HYES := Lib.hid hyes
  have HI := Lib.hid hi
  clear hyes hi
  clear hv hs hl
  go_enter Try.func21, Try.ntmps21
  go_wp2_with fail
  generalize w.alloc (.cells #[.int .u8 2, .int .u8 cn, .int .u8 cl, .int .u32 ce, .int .u32 cr] 42) = w1 at *
  obtain ⟨W, hWW⟩ : ∃ W, W = w.heap.size := ⟨_, rfl⟩
  rw [← hWW] at HC
  simp only [← hWW]
  clear hWW
  obtain ⟨d0, d1, d2, d3, d4, d5, d6, d7, d8, d9⟩ := HA.out.v.ten
  have d0 := onto_cell d0
  have d1 := onto_cell d1
  have d2 := onto_cell d2
  have d3 := onto_cell d3
  have d4 := onto_cell d4
  have d5 := onto_cell d5
  have d6 := onto_cell d6
  have d7 := onto_cell d7
  have d8 := onto_cell d8
  have d9 := onto_cell d9
  have c1 := onto_cell (HC.out.cell 1)
  have c2 := onto_cell (HC.out.cell 2)
  refine wp_region_onto (by kernel_rfl) (by kernel_rfl) ?_
  repeat (go_big_quiet_step ((go_at_call 26; exact onto_calls (at_is _ _ _ l _ _ (i : Nat) _ HL.out (HA.out.o.mems.on (onto_below _ _)) HX.out))))
  refine wpQuiet_nil ?_
  intro _ hw'
  obtain ⟨z, hw''⟩ := hw'
  subst hw''
  have HA2 := Lib.hid (HA.out.on (onto_below w1 z))
  have HC2 := Lib.hid (HC.out.on (onto_below w1 z))
  clear d0 d1 d2 d3 d4 d5 d6 d7 d8 d9 c1 c2
  generalize onto w1 z = w2 at *
  clear HA HC
  have c0 := HC2.out.cell 0
  have c1 := HC2.out.cell 1
  have c2 := HC2.out.cell 2
  have c3 := HC2.out.cell 3
  simp at c0 c1 c2 c3
  go_wp2_with (go_at_call 28; (refine (remove_no base B e s lv l i _ HL.out HA2.out.v HA2.out.o (HA2.out.size hbw) HI.out he HYES.out).mono ?_); intro en w3 hch; have HR := Lib.hid (ChgP.from hch HA2.out.b hbw); clear hch; obtain ⟨_, rfl, _⟩ := HR.out)
  go_ret
  exact HR.out
set_option maxHeartbeats 1000000 in
theorem change_2x (base B e : Nat) (s : Value) (lv : Lv) (l : List Mem) (cn cl ce cr : Nat) (w : World) (hl : l.length ≤ 40) (hv : Blk w B (vC e s lv) 28) (hs : OwnM w base s l) (hbw : base ≤ w.heap.size) (hx : idxOf (isBoth cn cl) l = -1) :
    Calls Try.prog 21 #[.pointer (some ⟨B, 0, none⟩), .agg #[.int .u8 2, .int .u8 cn, .int .u8 cl, .int .u32 ce, .int .u32 cr]] w (ChgP base B w false e lv l) := by
  have HA := Lib.hid ((ChgAt.mk hv hs (Below.refl _ _)).al (.cells #[.int .u8 2, .int .u8 cn, .int .u8 cl, .int .u32 ce, .int .u32 cr] 42))
  have HC : Hid (Blk (w.alloc (.cells #[.int .u8 2, .int .u8 cn, .int .u8 cl, .int .u32 ce, .int .u32 cr] 42)) w.heap.size #[.int .u8 2, .int .u8 cn, .int .u8 cl, .int .u32 ce, .int .u32 cr] 42) := Lib.hid (Blk.new rfl)
  have HL := Lib.hid hl
  have HX := Lib.hid hx
  clear hx
  clear hv hs hl
  go_enter Try.func21, Try.ntmps21
  go_wp2_with fail
  generalize w.alloc (.cells #[.int .u8 2, .int .u8 cn, .int .u8 cl, .int .u32 ce, .int .u32 cr] 42) = w1 at *
  obtain ⟨W, hWW⟩ : ∃ W, W = w.heap.size := ⟨_, rfl⟩
  rw [← hWW] at HC
  simp only [← hWW]
  clear hWW
  obtain ⟨d0, d1, d2, d3, d4, d5, d6, d7, d8, d9⟩ := HA.out.v.ten
  have d0 := onto_cell d0
  have d1 := onto_cell d1
  have d2 := onto_cell d2
  have d3 := onto_cell d3
  have d4 := onto_cell d4
  have d5 := onto_cell d5
  have d6 := onto_cell d6
  have d7 := onto_cell d7
  have d8 := onto_cell d8
  have d9 := onto_cell d9
  have c1 := onto_cell (HC.out.cell 1)
  have c2 := onto_cell (HC.out.cell 2)
  refine wp_region_onto (by kernel_rfl) (by kernel_rfl) ?_
  repeat (go_big_quiet_step ((go_at_call 26; exact onto_calls (at_is _ _ _ l _ _ (-1) _ HL.out (HA.out.o.mems.on (onto_below _ _)) HX.out))))
  refine wpQuiet_nil ?_
  intro _ hw'
  obtain ⟨z, hw''⟩ := hw'
  subst hw''
  have HA2 := Lib.hid (HA.out.on (onto_below w1 z))
  have HC2 := Lib.hid (HC.out.on (onto_below w1 z))
  clear d0 d1 d2 d3 d4 d5 d6 d7 d8 d9 c1 c2
  generalize onto w1 z = w2 at *
  clear HA HC
  have c0 := HC2.out.cell 0
  have c1 := HC2.out.cell 1
  have c2 := HC2.out.cell 2
  have c3 := HC2.out.cell 3
  simp at c0 c1 c2 c3
  go_wp2
  go_ret
  exact chg_same false HA2.out.v HA2.out.o.mems HA2.out.b hbw
set_option maxHeartbeats 1000000 in
theorem change_3x (base B e : Nat) (s : Value) (lv : Lv) (l : List Mem) (cn cl ce cr : Nat) (w : World) (hl : l.length ≤ 40) (hv : Blk w B (vC e s lv) 28) (hs : OwnM w base s l) (hbw : base ≤ w.heap.size) (hx : idxOf (isBoth cn cl) l = -1) :
    Calls Try.prog 21 #[.pointer (some ⟨B, 0, none⟩), .agg #[.int .u8 3, .int .u8 cn, .int .u8 cl, .int .u32 ce, .int .u32 cr]] w (ChgP base B w false e lv l) := by
  have HA := Lib.hid ((ChgAt.mk hv hs (Below.refl _ _)).al (.cells #[.int .u8 3, .int .u8 cn, .int .u8 cl, .int .u32 ce, .int .u32 cr] 42))
  have HC : Hid (Blk (w.alloc (.cells #[.int .u8 3, .int .u8 cn, .int .u8 cl, .int .u32 ce, .int .u32 cr] 42)) w.heap.size #[.int .u8 3, .int .u8 cn, .int .u8 cl, .int .u32 ce, .int .u32 cr] 42) := Lib.hid (Blk.new rfl)
  have HL := Lib.hid hl
  have HX := Lib.hid hx
  clear hx
  clear hv hs hl
  go_enter Try.func21, Try.ntmps21
  go_wp2_with fail
  generalize w.alloc (.cells #[.int .u8 3, .int .u8 cn, .int .u8 cl, .int .u32 ce, .int .u32 cr] 42) = w1 at *
  obtain ⟨W, hWW⟩ : ∃ W, W = w.heap.size := ⟨_, rfl⟩
  rw [← hWW] at HC
  simp only [← hWW]
  clear hWW
  obtain ⟨d0, d1, d2, d3, d4, d5, d6, d7, d8, d9⟩ := HA.out.v.ten
  have d0 := onto_cell d0
  have d1 := onto_cell d1
  have d2 := onto_cell d2
  have d3 := onto_cell d3
  have d4 := onto_cell d4
  have d5 := onto_cell d5
  have d6 := onto_cell d6
  have d7 := onto_cell d7
  have d8 := onto_cell d8
  have d9 := onto_cell d9
  have c1 := onto_cell (HC.out.cell 1)
  have c2 := onto_cell (HC.out.cell 2)
  refine wp_region_onto (by kernel_rfl) (by kernel_rfl) ?_
  repeat (go_big_quiet_step ((go_at_call 26; exact onto_calls (at_is _ _ _ l _ _ (-1) _ HL.out (HA.out.o.mems.on (onto_below _ _)) HX.out))))
  refine wpQuiet_nil ?_
  intro _ hw'
  obtain ⟨z, hw''⟩ := hw'
  subst hw''
  have HA2 := Lib.hid (HA.out.on (onto_below w1 z))
  have HC2 := Lib.hid (HC.out.on (onto_below w1 z))
  clear d0 d1 d2 d3 d4 d5 d6 d7 d8 d9 c1 c2
  generalize onto w1 z = w2 at *
  clear HA HC
  have c0 := HC2.out.cell 0
  have c1 := HC2.out.cell 1
  have c2 := HC2.out.cell 2
  have c3 := HC2.out.cell 3
  simp at c0 c1 c2 c3
  go_wp2
  go_ret
  exact chg_same false HA2.out.v HA2.out.o.mems HA2.out.b hbw
set_option maxHeartbeats 1000000 in
theorem change_3y (base B e : Nat) (s : Value) (lv : Lv) (l : List Mem) (cn cl ce cr : Nat) (w : World) (hl : l.length ≤ 40) (hv : Blk w B (vC e s lv) 28) (hs : OwnM w base s l) (hbw : base ≤ w.heap.size) (i : Nat) (hx : idxOf (isBoth cn cl) l = (i : Nat)) (hi : i < l.length) :
    Calls Try.prog 21 #[.pointer (some ⟨B, 0, none⟩), .agg #[.int .u8 3, .int .u8 cn, .int .u8 cl, .int .u32 ce, .int .u32 cr]] w (ChgP base B w true e lv (l.modify i fun m => { m with r := true })) := by
  have HA := Lib.hid ((ChgAt.mk hv hs (Below.refl _ _)).al (.cells #[.int .u8 3, .int .u8 cn, .int .u8 cl, .int .u32 ce, .int .u32 cr] 42))
  have HC : Hid (Blk (w.alloc (.cells #[.int .u8 3, .int .u8 cn, .int .u8 cl, .int .u32 ce, .int .u32 cr] 42)) w.heap.size #[.int .u8 3, .int .u8 cn, .int .u8 cl, .int .u32 ce, .int .u32 cr] 42) := Lib.hid (Blk.new rfl)
  have HL := Lib.hid hl
  have HX := Lib.hid hx
  clear hx
  have HI := Lib.hid hi
  clear hi
  clear hv hs hl
  go_enter Try.func21, Try.ntmps21
  go_wp2_with fail
  generalize w.alloc (.cells #[.int .u8 3, .int .u8 cn, .int .u8 cl, .int .u32 ce, .int .u32 cr] 42) = w1 at *
  obtain ⟨W, hWW⟩ : ∃ W, W = w.heap.size := ⟨_, rfl⟩
  rw [← hWW] at HC
  simp only [← hWW]
  clear hWW
  obtain ⟨d0, d1, d2, d3, d4, d5, d6, d7, d8, d9⟩ := HA.out.v.ten
  have d0 := onto_cell d0
  have d1 := onto_cell d1
  have d2 := onto_cell d2
  have d3 := onto_cell d3
  have d4 := onto_cell d4
  have d5 := onto_cell d5
  have d6 := onto_cell d6
  have d7 := onto_cell d7
  have d8 := onto_cell d8
  have d9 := onto_cell d9
  have c1 := onto_cell (HC.out.cell 1)
  have c2 := onto_cell (HC.out.cell 2)
  refine wp_region_onto (by kernel_rfl) (by kernel_rfl) ?_
  repeat (go_big_quiet_step ((go_at_call 26; exact onto_calls (at_is _ _ _ l _ _ (i : Nat) _ HL.out (HA.out.o.mems.on (onto_below _ _)) HX.out))))
  refine wpQuiet_nil ?_
  intro _ hw'
  obtain ⟨z, hw''⟩ := hw'
  subst hw''
  have HA2 := Lib.hid (HA.out.on (onto_below w1 z))
  have HC2 := Lib.hid (HC.out.on (onto_below w1 z))
  clear d0 d1 d2 d3 d4 d5 d6 d7 d8 d9 c1 c2
  generalize onto w1 z = w2 at *
  clear HA HC
  have c0 := HC2.out.cell 0
  have c1 := HC2.out.cell 1
  have c2 := HC2.out.cell 2
  have c3 := HC2.out.cell 3
  simp at c0 c1 c2 c3
  obtain ⟨g, cap, hsg, hg, hgw, hfz⟩ := HA2.out.o.form (by have := HI.out; omega)
  subst hsg
  have hBg := HA2.out.o.ne HA2.out.v
  have d1 := HA2.out.v.ten.2.1
  have HAT := MemsAt.at HA2.out.o.mems i HI.out
  have q2 := HAT.2.2
  have f2 := hfz (i * 3 + 2) (by have := HI.out; omega)
  have hi2 := HI.out
  clear hfz HAT
  generalize hn : l.length = n at hi2 d1
  have HN := Lib.hid hn
  clear hn
  go_wp2
  go_ret
  refine ⟨_, rfl, HA2.out.v.set_other _ _ hBg, MemsAt.settle HA2.out.o.mems, ?_⟩
  refine .of_below ?_
  have := HA2.out.b.mono hbw
  go_grown
set_option maxHeartbeats 1000000 in
theorem change_4x (base B e : Nat) (s : Value) (lv : Lv) (l : List Mem) (cn cl ce cr : Nat) (w : World) (hl : l.length ≤ 40) (hv : Blk w B (vC e s lv) 28) (hs : OwnM w base s l) (hbw : base ≤ w.heap.size) (hx : idxOf (isBoth cn cl) l = -1) :
    Calls Try.prog 21 #[.pointer (some ⟨B, 0, none⟩), .agg #[.int .u8 4, .int .u8 cn, .int .u8 cl, .int .u32 ce, .int .u32 cr]] w (ChgP base B w false e lv l) := by
  have HA := Lib.hid ((ChgAt.mk hv hs (Below.refl _ _)).al (.cells #[.int .u8 4, .int .u8 cn, .int .u8 cl, .int .u32 ce, .int .u32 cr] 42))
  have HC : Hid (Blk (w.alloc (.cells #[.int .u8 4, .int .u8 cn, .int .u8 cl, .int .u32 ce, .int .u32 cr] 42)) w.heap.size #[.int .u8 4, .int .u8 cn, .int .u8 cl, .int .u32 ce, .int .u32 cr] 42) := Lib.hid (Blk.new rfl)
  have HL := Lib.hid hl
  have HX := Lib.hid hx
  clear hx
  clear hv hs hl
  go_enter Try.func21, Try.ntmps21
  go_wp2_with fail
  generalize w.alloc (.cells #[.int .u8 4, .int .u8 cn, .int .u8 cl, .int .u32 ce, .int .u32 cr] 42) = w1 at *
  obtain ⟨W, hWW⟩ : ∃ W, W = w.heap.size := ⟨_, rfl⟩
  rw [← hWW] at HC
  simp only [← hWW]
  clear hWW
  obtain ⟨d0, d1, d2, d3, d4, d5, d6, d7, d8, d9⟩ := HA.out.v.ten
  have d0 := onto_cell d0
  have d1 := onto_cell d1
  have d2 := onto_cell d2
  have d3 := onto_cell d3
  have d4 := onto_cell d4
  have d5 := onto_cell d5
  have d6 := onto_cell d6
  have d7 := onto_cell d7
  have d8 := onto_cell d8
  have d9 := onto_cell d9
  have c1 := onto_cell (HC.out.cell 1)
  have c2 := onto_cell (HC.out.cell 2)
  refine wp_region_onto (by kernel_rfl) (by kernel_rfl) ?_
  repeat (go_big_quiet_step ((go_at_call 26; exact onto_calls (at_is _ _ _ l _ _ (-1) _ HL.out (HA.out.o.mems.on (onto_below _ _)) HX.out))))
  refine wpQuiet_nil ?_
  intro _ hw'
  obtain ⟨z, hw''⟩ := hw'
  subst hw''
  have HA2 := Lib.hid (HA.out.on (onto_below w1 z))
  have HC2 := Lib.hid (HC.out.on (onto_below w1 z))
  clear d0 d1 d2 d3 d4 d5 d6 d7 d8 d9 c1 c2
  generalize onto w1 z = w2 at *
  clear HA HC
  have c0 := HC2.out.cell 0
  have c1 := HC2.out.cell 1
  have c2 := HC2.out.cell 2
  have c3 := HC2.out.cell 3
  simp at c0 c1 c2 c3
  go_wp2
  go_region
  all_goals
    go_wp2
    go_ret
    exact chg_same false HA2.out.v HA2.out.o.mems (by have := HA2.out.b; go_grown) hbw
set_option maxHeartbeats 1000000 in
theorem change_4y (base B e : Nat) (s : Value) (lv : Lv) (l : List Mem) (cn cl ce cr : Nat) (w : World) (hl : l.length ≤ 40) (hv : Blk w B (vC e s lv) 28) (hs : OwnM w base s l) (hbw : base ≤ w.heap.size) (i : Nat) (hx : idxOf (isBoth cn cl) l = (i : Nat)) :
    Calls Try.prog 21 #[.pointer (some ⟨B, 0, none⟩), .agg #[.int .u8 4, .int .u8 cn, .int .u8 cl, .int .u32 ce, .int .u32 cr]] w (ChgP base B w (decide (ce = e)) e lv l) := by
  have HA := Lib.hid ((ChgAt.mk hv hs (Below.refl _ _)).al (.cells #[.int .u8 4, .int .u8 cn, .int .u8 cl, .int .u32 ce, .int .u32 cr] 42))
  have HC : Hid (Blk (w.alloc (.cells #[.int .u8 4, .int .u8 cn, .int .u8 cl, .int .u32 ce, .int .u32 cr] 42)) w.heap.size #[.int .u8 4, .int .u8 cn, .int .u8 cl, .int .u32 ce, .int .u32 cr] 42) := Lib.hid (Blk.new rfl)
  have HL := Lib.hid hl
  have HX := Lib.hid hx
  clear hx
  clear hv hs hl
  go_enter Try.func21, Try.ntmps21
  go_wp2_with fail
  generalize w.alloc (.cells #[.int .u8 4, .int .u8 cn, .int .u8 cl, .int .u32 ce, .int .u32 cr] 42) = w1 at *
  obtain ⟨W, hWW⟩ : ∃ W, W = w.heap.size := ⟨_, rfl⟩
  rw [← hWW] at HC
  simp only [← hWW]
  clear hWW
  obtain ⟨d0, d1, d2, d3, d4, d5, d6, d7, d8, d9⟩ := HA.out.v.ten
  have d0 := onto_cell d0
  have d1 := onto_cell d1
  have d2 := onto_cell d2
  have d3 := onto_cell d3
  have d4 := onto_cell d4
  have d5 := onto_cell d5
  have d6 := onto_cell d6
  have d7 := onto_cell d7
  have d8 := onto_cell d8
  have d9 := onto_cell d9
  have c1 := onto_cell (HC.out.cell 1)
  have c2 := onto_cell (HC.out.cell 2)
  refine wp_region_onto (by kernel_rfl) (by kernel_rfl) ?_
  repeat (go_big_quiet_step ((go_at_call 26; exact onto_calls (at_is _ _ _ l _ _ (i : Nat) _ HL.out (HA.out.o.mems.on (onto_below _ _)) HX.out))))
  refine wpQuiet_nil ?_
  intro _ hw'
  obtain ⟨z, hw''⟩ := hw'
  subst hw''
  have HA2 := Lib.hid (HA.out.on (onto_below w1 z))
  have HC2 := Lib.hid (HC.out.on (onto_below w1 z))
  clear d0 d1 d2 d3 d4 d5 d6 d7 d8 d9 c1 c2
  generalize onto w1 z = w2 at *
  clear HA HC
  have c0 := HC2.out.cell 0
  have c1 := HC2.out.cell 1
  have c2 := HC2.out.cell 2
  have c3 := HC2.out.cell 3
  simp at c0 c1 c2 c3
  have d0 := HA2.out.v.ten.1
  go_wp2
  go_region
  all_goals
    go_wp2
    go_ret
    exact chg_same' (decide (ce = e)) (by rw [Bool.eq_iff_iff]; simp; try omega) HA2.out.v HA2.out.o.mems (by have := HA2.out.b; go_grown) hbw
end Go.Proofs.Ytkgahhfemlebmaa
