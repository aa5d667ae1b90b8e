/-
  The law MarkNext returns true: a walk; with it the order of stamps, as it is on their numbers.
-/
import Derived.Test.YtegjgdiollafkaaMarkC
import Derived.Deep.DeepCutAuto
namespace Go.Proofs.Ytegjgdiollafkaa
open Go.RowKit Go.Instr

theorem less_is (n b l m c k : Nat) (r : Bool) (w : World) (hr : stLt ⟨n, b, l⟩ ⟨m, c, k⟩ = r) : Calls Try.prog 8 #[.agg #[.int .u32 n, .int .u8 b, .int .u8 l], .agg #[.int .u32 m, .int .u8 c, .int .u8 k]] w fun e w' => e = .returned (.bool r) ∧ Below w.heap.size w w' := by
  subst hr
  exact less_any ⟨n, b, l⟩ ⟨m, c, k⟩ w
theorem told_is (n b l : Nat) (w : World) : Calls Try.prog 7 #[.agg #[.int .u32 n, .int .u8 b, .int .u8 l]] w fun e w' => e = .returned (.agg #[.int .u32 n, .int .u8 b, .int .u8 l]) ∧ Below w.heap.size w w' := told_any ⟨n, b, l⟩ w
theorem stLt_iff (a b : S) : stLt a b = true ↔ (a.n < b.n ∨ (a.n = b.n ∧ (a.b < b.b ∨ (a.b = b.b ∧ a.l < b.l)))) := by
  unfold stLt markLt
  split
  · rw [decide_eq_true_iff]; omega
  · split <;> (rw [decide_eq_true_iff]; omega)
theorem stLt_no (a b : S) : stLt a b = false ↔ ¬ (a.n < b.n ∨ (a.n = b.n ∧ (a.b < b.b ∨ (a.b = b.b ∧ a.l < b.l)))) := by
  rw [← stLt_iff, Bool.not_eq_true]
theorem S.ext' {a b : S} (h1 : a.n = b.n) (h2 : a.b = b.b) (h3 : a.l = b.l) : a = b := by
  cases a; cases b; simp_all
theorem lt_irr (a : S) : stLt a a = false := by
  rw [stLt_no]; omega
theorem lt_total (a b : S) : a = b ∨ (stLt a b = true ∧ stLt b a = false) ∨ (stLt a b = false ∧ stLt b a = true) := by
  rw [stLt_iff, stLt_no, stLt_iff, stLt_no]
  by_cases h1 : a.n = b.n
  · by_cases h2 : a.b = b.b
    · by_cases h3 : a.l = b.l
      · exact .inl (S.ext' h1 h2 h3)
      · right; omega
    · right; omega
  · right; omega
theorem lt_trans (a b c : S) (h : stLt a b = true) (h' : stLt b c = true) : stLt a c = true := by
  rw [stLt_iff] at *; omega
theorem lt_zero (a : S) : stLt a ⟨0, 0, 0⟩ = false := by
  rw [stLt_no]; simp only; omega
theorem top_one (a : S) : topS [a] = a := by
  show (if stLt ⟨0, 0, 0⟩ a then a else ⟨0, 0, 0⟩) = a
  rcases lt_total ⟨0, 0, 0⟩ a with h | ⟨h, _⟩ | ⟨_, h⟩
  · rw [← h, lt_irr]; rfl
  · rw [h]; rfl
  · rw [lt_zero] at h; exact absurd h (by decide)
theorem top_three (a b c : S) : ∃ m, topS [a, b, c] = m ∧ (m = a ∨ m = b ∨ m = c) ∧ stLt m a = false ∧ stLt m b = false ∧ stLt m c = false := by
  have h2 : topS [a, b, c] = if stLt (if stLt (topS [a]) b then b else topS [a]) c then c else (if stLt (topS [a]) b then b else topS [a]) := rfl
  rw [top_one] at h2
  refine ⟨_, rfl, ?_⟩
  rw [h2]
  simp only [stLt_iff, stLt_no]
  by_cases h3 : a.n < b.n ∨ (a.n = b.n ∧ (a.b < b.b ∨ (a.b = b.b ∧ a.l < b.l)))
  · rw [if_pos h3]
    by_cases h4 : b.n < c.n ∨ (b.n = c.n ∧ (b.b < c.b ∨ (b.b = c.b ∧ b.l < c.l)))
    · rw [if_pos h4]; exact ⟨.inr (.inr rfl), by omega⟩
    · rw [if_neg h4]; exact ⟨.inr (.inl rfl), by omega⟩
  · rw [if_neg h3]
    by_cases h4 : a.n < c.n ∨ (a.n = c.n ∧ (a.b < c.b ∨ (a.b = c.b ∧ a.l < c.l)))
    · rw [if_pos h4]; exact ⟨.inr (.inr rfl), by omega⟩
    · rw [if_neg h4]; exact ⟨.inl rfl, by omega⟩
abbrev stK (n b l : Nat) : Array Value := #[.int .u32 n, .int .u8 b, .int .u8 l]
set_option maxHeartbeats 400000 in
theorem told_ex (n b l : Nat) (w : World) : Calls Try.prog 7 #[.agg #[.int .u32 n, .int .u8 b, .int .u8 l]] w fun e w' => e = .returned (.agg #[.int .u32 n, .int .u8 b, .int .u8 l]) ∧ (w.alloc (.cells #[.int .u32 n, .int .u8 b, .int .u8 l] 24)).alloc (.cells #[.int .u32 n, .int .u8 b, .int .u8 l] 30) = w' := by
  go_enter Try.func7, Try.ntmps7
  go_wp2
  exact bodyPost_ret (v := .agg #[.int .u32 n, .int .u8 b, .int .u8 l]) (by simp [results, Try.results7, go_sem]) rfl ⟨rfl, rfl⟩
theorem nextS_c {s : S} {y node life : Nat} : (∃ n b l, (nextS s y node life) = (⟨n, b, l⟩, true) ∧ stLt s ⟨n, b, l⟩ = true ∧ markLt s ⟨n, b, l⟩ = true) ∨ nextS s y node life = (⟨0, 0, 0⟩, false) := by
  unfold nextS
  split
  · exact .inr rfl
  · refine .inl ⟨_, _, _, rfl, ?_, ?_⟩
    · rw [stLt_iff]; simp only; omega
    · unfold markLt; simp only; split
      · omega
      · rw [decide_eq_true_iff]; omega
/-- The worlds in which all that a world holds is as it was. -/
noncomputable def onto (w z : World) : World := @ite _ (Below w.heap.size w z) (Classical.propDecidable _) z w
theorem onto_below (w z : World) : Below w.heap.size w (onto w z) := by
  unfold onto
  split
  · assumption
  · exact Below.refl _ _
theorem onto_of {w z : World} (h : Below w.heap.size w z) : z = onto w z := by
  unfold onto
  rw [if_pos h]
theorem wp_region_onto {P : Program} {id : Nat} {Q : Exit → Act → World → Prop} {a : Act} {w : World} {l : List Oper} (hm : P.follows .mixedOrders = true) (hB : Region.lexB .any l.toArray = true)
    (h : wpQuiet P l.toArray (fun w' => ∃ z, w' = onto w z) (fun a' => ∀ w', (∃ z, w' = onto w z) → Q .normal a' w') l a) : (Code.region id l.toArray true).wp P Q a w :=
  wp_region_quiet (C := fun w' => ∃ z, w' = onto w z) hm hB ⟨w.drew, onto_of (Below.drew (Below.refl _ _))⟩ (by simpa using h)
theorem onto_calls {P : Program} {f : FuncId} {args : Array Value} {w z : World} {v : Value}
    (h : Calls P f args (onto w z) fun e w' => e = .returned v ∧ Below (onto w z).heap.size (onto w z) w') : Calls P f args (onto w z) fun e w'' => e = .returned v ∧ ∃ m, w'' = onto w m :=
  h.mono fun _ w' ⟨he, hB⟩ => ⟨he, w', onto_of (m_below_on (onto_below w z) hB)⟩
theorem onto_cell {w : World} {p : Addr} {v : Value} (h : w.cell? p = some v) : ∀ z, (onto w z).cell? p = some v := fun z =>
  ((onto_below w z).cell (World.block_lt_of_cell? _ _ h)).trans h
set_option maxHeartbeats 400000 in
theorem next_ex (s : S) (y node life : Nat) (w : World) (h : s.fine) (hy : y < 4294967296) : Calls Try.prog 15 #[st s, .int .u32 y, .int .u8 node, .int .u8 life] w fun e w' => e = .returned (.tuple #[st (nextS s y node life).1, .bool (nextS s y node life).2]) ∧ (w.alloc (.cells (stC s) 30)).alloc (.cells (stC (nextS s y node life).1) 30) = w' := by
  obtain ⟨n, b, l⟩ := s
  obtain ⟨h1, _, _⟩ := h
  simp only at h1
  unfold st
  by_cases h0 : y = 0
  · subst h0
    rw [nextS_no (.inl rfl)]
    go_enter Try.func15, Try.ntmps15
    go_wp2
    exact bodyPost_ret (by simp [results, Try.results15, go_sem]; rfl) rfl ⟨by simp, by first | rfl | simp⟩
  · by_cases h2 : 4294967295 < n + y
    · rw [nextS_no (.inr h2)]
      go_enter Try.func15, Try.ntmps15
      go_wp2
      exact bodyPost_ret (by simp [results, Try.results15, go_sem]; rfl) rfl ⟨by simp, by first | rfl | simp⟩
    · rw [nextS_yes (by simp only; omega)]
      go_enter Try.func15, Try.ntmps15
      go_wp2
      · exfalso; rename_i hh; simp at hh; omega
      · exact bodyPost_ret (by simp [results, Try.results15, go_sem]; rfl) rfl ⟨by simp, by first | rfl | simp⟩
set_option maxHeartbeats 400000 in
theorem refNext_ex (s : S) (y node life : Nat) (w : World) (h : s.fine) (hy : y < 4294967296) : Calls Try.prog 16 #[st s, .int .u32 y, .int .u8 node, .int .u8 life] w fun e w' => e = .returned (.tuple #[st (nextS s y node life).1, .bool (nextS s y node life).2]) ∧ (w.alloc (.cells (stC s) 32)).alloc (.cells (stC (nextS s y node life).1) 32) = w' := by
  obtain ⟨n, b, l⟩ := s
  obtain ⟨h1, _, _⟩ := h
  simp only at h1
  unfold st
  by_cases h0 : y = 0
  · subst h0
    rw [nextS_no (.inl rfl)]
    go_enter Try.func16, Try.ntmps16
    go_wp2
    exact bodyPost_ret (by simp [results, Try.results16, go_sem]; rfl) rfl ⟨by simp, by first | rfl | simp⟩
  · by_cases h2 : 4294967295 < n + y
    · rw [nextS_no (.inr h2)]
      go_enter Try.func16, Try.ntmps16
      go_wp2
      exact bodyPost_ret (by simp [results, Try.results16, go_sem]; rfl) rfl ⟨by simp, by first | rfl | simp⟩
    · rw [nextS_yes (by simp only; omega)]
      go_enter Try.func16, Try.ntmps16
      go_wp2
      · exfalso; rename_i hh; simp at hh; omega
      · exact bodyPost_ret (by simp [results, Try.results16, go_sem]; rfl) rfl ⟨by simp, by first | rfl | simp⟩
set_option maxHeartbeats 400000 in
theorem bnext_ex (s : S) (node : Nat) (w : World) (h : s.fine) : Calls Try.prog 17 #[mk s, .int .u8 node] w fun e w' => e = .returned (.tuple #[mk (nextS s 1 node 0).1, .bool (nextS s 1 node 0).2]) ∧ (w.alloc (.cells #[.int .u32 s.n, .int .u8 s.b] 40)).alloc (.cells #[.int .u32 (nextS s 1 node 0).1.n, .int .u8 (nextS s 1 node 0).1.b] 40) = w' := by
  obtain ⟨n, b, l⟩ := s
  obtain ⟨h1, _, _⟩ := h
  simp only at h1
  unfold mk
  by_cases h2 : n = 4294967295
  · subst h2
    rw [nextS_no (.inr (by simp only; omega))]
    go_enter Try.func17, Try.ntmps17
    go_wp2
    exact bodyPost_ret (by simp [results, Try.results17, go_sem]; rfl) rfl ⟨by simp, by first | rfl | simp⟩
  · rw [nextS_yes (by simp only; omega)]
    go_enter Try.func17, Try.ntmps17
    go_wp2
    exact bodyPost_ret (by simp [results, Try.results17, go_sem]; rfl) rfl ⟨by simp, by first | rfl | simp⟩
theorem Blk.new {w : World} {B : Nat} {cs : Array Value} {T : TypeId} (h : B = w.heap.size) : Blk (w.alloc (.cells cs T)) B cs T := by
  subst h
  exact heap_alloc_new _ _
theorem Blk.dr {w : World} {B : Nat} {cs : Array Value} {T : TypeId} (h : Blk w B cs T) : Blk w.drew B cs T := h
/-- The boxed arguments of the law MarkNext. -/
def NB (w : World) (X : Nat) (n b l p q : Nat) : Prop := Blk w X #[.int .u32 n, .int .u8 b, .int .u8 l] 24 ∧ Blk w (X + 1) #[.int .u8 p, .int .u8 q] 45
theorem NB.on {w w' : World} {X n b l p q : Nat} (h : NB w X n b l p q) (hB : Below w.heap.size w w') : NB w' X n b l p q := ⟨h.1.on hB, h.2.on hB⟩
theorem NB.al {w : World} {X n b l p q : Nat} (h : NB w X n b l p q) (o : Obj) : NB (w.alloc o) X n b l p q := ⟨h.1.alloc _, h.2.alloc _⟩
theorem NB.dr {w : World} {X n b l p q : Nat} (h : NB w X n b l p q) : NB w.drew X n b l p q := h
theorem NB.cells {w : World} {X n b l p q : Nat} (h : NB w X n b l p q) : w.cell? ⟨X, 0, none⟩ = some (.int .u32 n) ∧ w.cell? ⟨X, 1, none⟩ = some (.int .u8 b) ∧ w.cell? ⟨X, 2, none⟩ = some (.int .u8 l) ∧ w.cell? ⟨X + 1, 0, none⟩ = some (.int .u8 p) ∧ w.cell? ⟨X + 1, 1, none⟩ = some (.int .u8 q) :=
  ⟨h.1.cell 0, h.1.cell 1, h.1.cell 2, h.2.cell 0, h.2.cell 1⟩
theorem field30 (n b l : Int) (W : World) : Sem.run Try.prog (field 30 (.agg #[.int .u32 n, .int .u8 b, .int .u8 l]) 0) W = .ok (.agg #[.int .u32 n, .int .u8 b]) W := by
  rfl
theorem below_is (n b m c : Nat) (r : Bool) (w : World) (hr : markLt ⟨n, b, 0⟩ ⟨m, c, 0⟩ = r) : Calls Try.prog 10 #[.agg #[.int .u32 n, .int .u8 b], .agg #[.int .u32 m, .int .u8 c]] w fun e w' => e = .returned (.bool r) ∧ Below w.heap.size w w' := by
  subst hr
  exact below_any ⟨n, b, 0⟩ ⟨m, c, 0⟩ w
set_option maxRecDepth 20000 in
set_option maxHeartbeats 2000000 in
theorem next_walk (n b l y p q : Nat) (w : World) (hf : S.fine ⟨n, b, l⟩) (hy : y < 4294967296) : Calls Try.prog 4 #[.agg #[.int .u32 n, .int .u8 b, .int .u8 l], .int .u32 y, .agg #[.int .u8 p, .int .u8 q]] w fun e w' => e = .returned (.bool true) ∧ Below w.heap.size w w' := by
  have HF := Lib.hid hf
  have HY := Lib.hid hy
  clear hf hy
  have HF0 : Hid (S.fine ⟨n, b, 0⟩) := ⟨HF.out.1, HF.out.2.1, Nat.zero_lt_succ _⟩
  obtain ⟨⟨sn, sb, sl⟩, hs⟩ : ∃ s, (nextS ⟨n, b, l⟩ y p q).1 = s := ⟨_, rfl⟩
  obtain ⟨ok, hok⟩ : ∃ s, (nextS ⟨n, b, l⟩ y p q).2 = s := ⟨_, rfl⟩
  have HS := Lib.hid (show nextS ⟨n, b, l⟩ y p q = (⟨sn, sb, sl⟩, ok) from Prod.ext hs hok)
  have HBX : Hid (NB ((w.alloc (.cells #[.int .u32 n, .int .u8 b, .int .u8 l] 24)).alloc (.cells #[.int .u8 p, .int .u8 q] 45)) w.heap.size n b l p q) := by
    refine ⟨Blk.alloc (heap_alloc_new _ _) _, ?_⟩
    have := heap_alloc_new (w.alloc (.cells #[.int .u32 n, .int .u8 b, .int .u8 l] 24)) (.cells #[.int .u8 p, .int .u8 q] 45)
    rw [World.size_alloc] at this; exact this
  clear hs hok
  go_enter Try.func4, Try.ntmps4
  go_upto_region 3 with (go_at_call 6; refine (speaks_any _).mono ?_; rintro e w1 ⟨rfl, hB⟩; have HT := Lib.hid (HBX.out.on hB); have HB1 : Hid (Below w.heap.size w w1) := m_below_on (by go_grown) hB; clear hB)
  clear HBX
  generalize w.heap.size = X at HT ⊢
  obtain ⟨x0, x1, x2, y0, y1⟩ := HT.out.cells
  have hX1 : X + 1 < w1.heap.size := HT.out.2.lt
  go_cut [7, 8] (fun s7 s8 wx => ∃ B : Nat, s7 = .pointer (some ⟨B, 0, none⟩) ∧ s8 = .bool ok ∧ NB wx X n b l p q ∧ Blk wx B #[.int .u32 sn, .int .u8 sb, .int .u8 sl] 30 ∧ Below w.heap.size w wx)
  case first =>
    go_region_held3 (fun w' => w'.cell? ⟨X, 0, none⟩ = some (.int .u32 n) ∧ w'.cell? ⟨X, 1, none⟩ = some (.int .u8 b) ∧ w'.cell? ⟨X, 2, none⟩ = some (.int .u8 l) ∧ w'.cell? ⟨X + 1, 0, none⟩ = some (.int .u8 p) ∧ w'.cell? ⟨X + 1, 1, none⟩ = some (.int .u8 q))
      ((refine NB.cells ?_; repeat (first | exact HT.out | refine NB.dr ?_ | refine NB.al ?_ _)))
      (first | (go_at_call 7; (with_reducible refine (told_ex _ _ _ _).mono ?_); rintro e w2 ⟨rfl, rfl⟩) | (go_at_call 15; (refine (next_ex ⟨n, b, l⟩ y p q _ HF.out HY.out).mono ?_; rw [HS.out]; rintro e w2 ⟨rfl, rfl⟩)))
    all_goals
      go_wp2_with fail
      go_meet
      refine ⟨_, rfl, rfl, ?_, ?_, ?_⟩
      · repeat (first | exact HT.out | refine NB.dr ?_ | refine NB.al ?_ _)
      · repeat (first | (refine Blk.new ?_; simp; done) | refine Blk.dr ?_ | refine Blk.alloc ?_ _)
      · have := HB1.out
        have hsz := HB1.out.size
        go_grown
  case rest =>
    obtain ⟨B, rfl, rfl, hN, hS, hB⟩ := hcut
    clear HT HB1 x0 x1 x2 y0 y1 hX1
    have HN := Lib.hid hN
    have HSB := Lib.hid hS
    have HB := Lib.hid hB
    obtain ⟨x0, x1, x2, y0, y1⟩ := hN.cells
    have hX1 : X + 1 < wc.heap.size := hN.2.lt
    clear hN hS hB
    go_upto_region 5 with (go_at_call 16; (refine (refNext_ex ⟨n, b, l⟩ y p q _ HF.out HY.out).mono ?_; rw [HS.out]; rintro e w2 ⟨rfl, rfl⟩))
    have hW : Hid (NB (((wc.alloc (.cells (stC ⟨n, b, l⟩) 32)).alloc (.cells (stC ⟨sn, sb, sl⟩) 32)).alloc (.cells #[.int .u32 sn, .int .u8 sb, .int .u8 sl] 32)) X n b l p q ∧ Blk (((wc.alloc (.cells (stC ⟨n, b, l⟩) 32)).alloc (.cells (stC ⟨sn, sb, sl⟩) 32)).alloc (.cells #[.int .u32 sn, .int .u8 sb, .int .u8 sl] 32)) B #[.int .u32 sn, .int .u8 sb, .int .u8 sl] 30 ∧ Blk (((wc.alloc (.cells (stC ⟨n, b, l⟩) 32)).alloc (.cells (stC ⟨sn, sb, sl⟩) 32)).alloc (.cells #[.int .u32 sn, .int .u8 sb, .int .u8 sl] 32)) (wc.heap.size + 1 + 1) #[.int .u32 sn, .int .u8 sb, .int .u8 sl] 32 ∧ Below w.heap.size w (((wc.alloc (.cells (stC ⟨n, b, l⟩) 32)).alloc (.cells (stC ⟨sn, sb, sl⟩) 32)).alloc (.cells #[.int .u32 sn, .int .u8 sb, .int .u8 sl] 32))) := by
      refine ⟨((HN.out.al _).al _).al _, ((HSB.out.alloc _).alloc _).alloc _, Blk.new (by simp), ?_⟩
      have := HB.out
      have hsz := HB.out.size
      go_grown
    clear HN HSB HB x0 x1 x2 y0 y1 hX1
    generalize (((wc.alloc (.cells (stC ⟨n, b, l⟩) 32)).alloc (.cells (stC ⟨sn, sb, sl⟩) 32)).alloc (.cells #[.int .u32 sn, .int .u8 sb, .int .u8 sl] 32)) = w5 at *
    generalize wc.heap.size + 1 + 1 = C at *
    obtain ⟨hN, hSB, hC, hB⟩ := hW.out
    have HN := Lib.hid hN
    have HSB := Lib.hid hSB
    have HC := Lib.hid hC
    have HB := Lib.hid hB
    obtain ⟨x0, x1, x2, y0, y1⟩ := hN.cells
    have hX1 : X + 1 < w5.heap.size := hN.2.lt
    clear hN hSB hC hB hW
    obtain ⟨⟨tn, tb, tl⟩, hs⟩ : ∃ s, (nextS ⟨n, b, l⟩ 1 p 0).1 = s := ⟨_, rfl⟩
    obtain ⟨has, hok⟩ : ∃ s, (nextS ⟨n, b, l⟩ 1 p 0).2 = s := ⟨_, rfl⟩
    have HS2 := Lib.hid (show nextS ⟨n, b, l⟩ 1 p 0 = (⟨tn, tb, tl⟩, has) from Prod.ext hs hok)
    have HS3 := Lib.hid (show nextS ⟨n, b, 0⟩ 1 p 0 = (⟨tn, tb, tl⟩, has) from HS2.out)
    clear hs hok
    go_cut [11, 12] (fun s7 s8 wx => ∃ D : Nat, s7 = .pointer (some ⟨D, 0, none⟩) ∧ s8 = .bool has ∧ NB wx X n b l p q ∧ Blk wx B #[.int .u32 sn, .int .u8 sb, .int .u8 sl] 30 ∧ Blk wx C #[.int .u32 sn, .int .u8 sb, .int .u8 sl] 32 ∧ Blk wx D #[.int .u32 tn, .int .u8 tb] 40 ∧ Below w.heap.size w wx)
    case first =>
      have hfd := field30
      go_region_held3 (fun w' => w'.cell? ⟨X, 0, none⟩ = some (.int .u32 n) ∧ w'.cell? ⟨X, 1, none⟩ = some (.int .u8 b) ∧ w'.cell? ⟨X, 2, none⟩ = some (.int .u8 l) ∧ w'.cell? ⟨X + 1, 0, none⟩ = some (.int .u8 p) ∧ w'.cell? ⟨X + 1, 1, none⟩ = some (.int .u8 q))
        ((refine NB.cells ?_; repeat (first | exact HN.out | refine NB.dr ?_ | refine NB.al ?_ _)))
        (first | (go_at_call 7; (with_reducible refine (told_ex _ _ _ _).mono ?_); rintro e w2 ⟨rfl, rfl⟩) | (go_at_call 17; (refine (bnext_ex ⟨n, b, l⟩ p _ HF.out).mono ?_; rw [HS2.out]; rintro e w2 ⟨rfl, rfl⟩)))
      all_goals
        go_wp2_with fail
        go_meet
        refine ⟨_, rfl, rfl, ?_, ?_, ?_, ?_, ?_⟩
        · repeat (first | exact HN.out | refine NB.dr ?_ | refine NB.al ?_ _)
        · repeat (first | exact HSB.out | refine Blk.dr ?_ | refine Blk.alloc ?_ _)
        · repeat (first | exact HC.out | refine Blk.dr ?_ | refine Blk.alloc ?_ _)
        · repeat (first | (refine Blk.new ?_; simp; done) | refine Blk.dr ?_ | refine Blk.alloc ?_ _)
        · have := HB.out
          have hsz := HB.out.size
          go_grown
    case rest =>
      obtain ⟨D, rfl, rfl, hN, hSB, hC, hD, hB⟩ := hcut
      clear HN HSB HC HB x0 x1 x2 y0 y1 hX1
      have HN := Lib.hid hN
      have HSB := Lib.hid hSB
      have HC := Lib.hid hC
      have HD := Lib.hid hD
      have HB := Lib.hid hB
      obtain ⟨x0, x1, x2, y0, y1⟩ := hN.cells
      clear hN hSB hC hD hB
      go_upto_region 7 with (go_at_call 16; (refine (refNext_ex ⟨n, b, 0⟩ 1 p 0 _ HF0.out (by decide)).mono ?_; rw [HS3.out]; rintro e w2 ⟨rfl, rfl⟩))
      have hW : Hid (NB (((wc.alloc (.cells (stC ⟨n, b, 0⟩) 32)).alloc (.cells (stC ⟨tn, tb, tl⟩) 32)).alloc (.cells #[.int .u32 tn, .int .u8 tb, .int .u8 tl] 32)) X n b l p q ∧ Blk (((wc.alloc (.cells (stC ⟨n, b, 0⟩) 32)).alloc (.cells (stC ⟨tn, tb, tl⟩) 32)).alloc (.cells #[.int .u32 tn, .int .u8 tb, .int .u8 tl] 32)) B #[.int .u32 sn, .int .u8 sb, .int .u8 sl] 30 ∧ Blk (((wc.alloc (.cells (stC ⟨n, b, 0⟩) 32)).alloc (.cells (stC ⟨tn, tb, tl⟩) 32)).alloc (.cells #[.int .u32 tn, .int .u8 tb, .int .u8 tl] 32)) C #[.int .u32 sn, .int .u8 sb, .int .u8 sl] 32 ∧ Blk (((wc.alloc (.cells (stC ⟨n, b, 0⟩) 32)).alloc (.cells (stC ⟨tn, tb, tl⟩) 32)).alloc (.cells #[.int .u32 tn, .int .u8 tb, .int .u8 tl] 32)) D #[.int .u32 tn, .int .u8 tb] 40 ∧ Blk (((wc.alloc (.cells (stC ⟨n, b, 0⟩) 32)).alloc (.cells (stC ⟨tn, tb, tl⟩) 32)).alloc (.cells #[.int .u32 tn, .int .u8 tb, .int .u8 tl] 32)) (wc.heap.size + 1 + 1) #[.int .u32 tn, .int .u8 tb, .int .u8 tl] 32 ∧ Below w.heap.size w (((wc.alloc (.cells (stC ⟨n, b, 0⟩) 32)).alloc (.cells (stC ⟨tn, tb, tl⟩) 32)).alloc (.cells #[.int .u32 tn, .int .u8 tb, .int .u8 tl] 32))) := by
        refine ⟨((HN.out.al _).al _).al _, ((HSB.out.alloc _).alloc _).alloc _, ((HC.out.alloc _).alloc _).alloc _, ((HD.out.alloc _).alloc _).alloc _, Blk.new (by simp), ?_⟩
        have := HB.out
        have hsz := HB.out.size
        go_grown
      clear HN HSB HC HD HB x0 x1 x2 y0 y1
      generalize (((wc.alloc (.cells (stC ⟨n, b, 0⟩) 32)).alloc (.cells (stC ⟨tn, tb, tl⟩) 32)).alloc (.cells #[.int .u32 tn, .int .u8 tb, .int .u8 tl] 32)) = w7 at *
      generalize wc.heap.size + 1 + 1 = E at *
      have hx := hW.out.1.cells
      have x0 := onto_cell hx.1
      have x1 := onto_cell hx.2.1
      have x2 := onto_cell hx.2.2.1
      have b0 := onto_cell (hW.out.2.1.cell 0)
      have b1 := onto_cell (hW.out.2.1.cell 1)
      have b2 := onto_cell (hW.out.2.1.cell 2)
      have c0 := onto_cell (hW.out.2.2.1.cell 0)
      have c1 := onto_cell (hW.out.2.2.1.cell 1)
      have c2 := onto_cell (hW.out.2.2.1.cell 2)
      have d0 := onto_cell (hW.out.2.2.2.1.cell 0)
      have d1 := onto_cell (hW.out.2.2.2.1.cell 1)
      have e0 := onto_cell (hW.out.2.2.2.2.1.cell 0)
      have e1 := onto_cell (hW.out.2.2.2.2.1.cell 1)
      have HB := Lib.hid hW.out.2.2.2.2.2
      have hfd := field30
      clear hx hW
      have hcs := nextS_c (s := ⟨n, b, l⟩) (y := y) (node := p) (life := q)
      have hct := nextS_c (s := ⟨n, b, l⟩) (y := 1) (node := p) (life := 0)
      rw [HS.out] at hcs
      rw [HS2.out] at hct
      have HL : Hid (ok = true → stLt ⟨n, b, l⟩ ⟨sn, sb, sl⟩ = true) := fun h => by
        rcases hcs with ⟨n1, b1, l1, he, h1, _⟩ | he
        · cases he; exact h1
        · rw [h] at he; cases he
      have HM : Hid (has = true → markLt ⟨n, b, 0⟩ ⟨tn, tb, 0⟩ = true) := fun h => by
        rcases hct with ⟨n1, b1, l1, he, _, h1⟩ | he
        · cases he; exact h1
        · rw [h] at he; cases he
      clear hcs hct HS HS2 HS3 HF HF0 HY
      cases ok <;> cases has
      all_goals
        refine wp_region_onto (by kernel_rfl) (by kernel_rfl) ?_
        repeat (go_big_quiet_step ((first | (go_at_call 7; exact onto_calls (told_is _ _ _ _)) | (go_at_call 8; exact onto_calls (less_is _ _ _ _ _ _ true _ (HL.out rfl))) | (go_at_call 10; exact onto_calls (below_is _ _ _ _ true _ (HM.out rfl))))))
        refine wpQuiet_nil ?_
        intro _ hw'
        obtain ⟨z, hw''⟩ := hw'
        subst hw''
        have HZ := Lib.hid (onto_below w7 z)
        go_wp2
        go_ret
        exact ⟨rfl, m_below_on HB.out HZ.out⟩
end Go.Proofs.Ytegjgdiollafkaa
