/-
  The walk of view's add.
-/
import Derived.Test.YtkgahhfemlebmaaViewB
import Derived.Deep.DeepCutAuto
import Derived.BigRegion
namespace Go.Proofs.Ytkgahhfemlebmaa
open Go.RowKit Go.Instr

/-- The same at a list of operations, where something is appended: the slice that it leaves is not nil. -/
theorem wpList_append_own1 {P : Program} (w : World) {ops : Array Oper} {rest : List Oper} {o : Oper} {a : Act} {Q : Exit → Act → World → Prop} (hgd : o.guard = none) (s x : Operand) (t : TypeId)
    (ho : o.op = .call { callee := .builtin .append, args := #[s, x], argTypes := #[t, t] })
    (base : Nat) (e : TypeId) (i : TypeInfo) (z : Value) (size bytes : Nat) (ht : P.underlying t = some (.slice e)) (hi : P.info? e = some i) (hz : i.zero = some z)
    (hsize : i.size = size) (hby : i.bytes = bytes) (hzs : z.cells.size = size) (hsz : 0 < size)
    (v : Value) (n : Nat) (xs : List Value) (hs : a.eval s = v) (hown : w.ownsRow base e size v n xs)
    (ad : Addr) (m c : Nat) (news : List Value) (hx : a.eval x = .slice (some ad) m c) (hl : news.length = m * size) (hnews : ∀ j u, news[j]? = some u → w.cell? (ad.add j) = some u) (h1 : ∀ u ∈ news, u.oneCell' = true)
    (h63 : n + m ≤ maxLen) (hbytes : (n + m) * bytes ≤ 140737488355328) (hbase : base ≤ w.heap.size) (hm : 0 < m)
    (h : ∀ g cap w', base ≤ g → w'.ownsRow base e size (.slice (some ⟨g, 0, none⟩) (n + m) cap) (n + m) (xs ++ news) → w.grownBy w' v.ownBlock → wpList P ops Q rest (a.put o.dst (.slice (some ⟨g, 0, none⟩) (n + m) cap)) w') : wpList P ops Q (o :: rest) a w :=
  wpList_append_own w hgd s x t ho base e i z size bytes ht hi hz hsize hby hzs hsz v n xs hs hown ad m c news hx hl hnews h1 h63 hbytes hbase fun v' w' h2 h3 _ => by
    rcases h2.2 with ⟨_, hnm⟩ | ⟨g, cap, cur, hv, hb, _⟩
    · omega
    · rw [hv] at h2 ⊢
      exact h g cap w' hb h2 h3
theorem own_ne {w : World} {base : Nat} {e : TypeId} {size : Nat} {v : Value} {n : Nat} {xs : List Value} {k : Nat} {C : Array Value} {T : TypeId} {fr : Nat × Nat}
    (h : w.ownsRow base e size v n xs) (hk : w.heap[k]? = some (.cells C T fr)) (hne : e ≠ T) : v.ownBlock ≠ some k := by
  intro he
  rcases h.2 with ⟨rfl, _⟩ | ⟨g, cap, cur, rfl, _, hg, _⟩
  · simp [Value.ownBlock] at he
  · simp only [Value.ownBlock, Option.some.injEq] at he
    subst he
    rw [hg] at hk
    simp only [Option.some.injEq, Obj.cells.injEq] at hk
    exact hne hk.2.1
theorem own_below {w w1 : World} {base : Nat} {e : TypeId} {size : Nat} {v : Value} {n : Nat} {xs : List Value} (h : w.ownsRow base e size v n xs) (hB : Below w.heap.size w w1) : w1.ownsRow base e size v n xs := by
  refine ⟨h.1, ?_⟩
  rcases h.2 with hn | ⟨g, cap, cur, rfl, hb, hg, rest⟩
  · exact .inl hn
  · exact .inr ⟨g, cap, cur, rfl, hb, (hB.block g (Array.getElem?_eq_some_iff.1 hg).1).trans hg, rest⟩
theorem own_mono {w : World} {b1 b2 : Nat} {e : TypeId} {size : Nat} {v : Value} {n : Nat} {xs : List Value} (h : w.ownsRow b1 e size v n xs) (hb : b2 ≤ b1) : w.ownsRow b2 e size v n xs := by
  refine ⟨h.1, ?_⟩
  rcases h.2 with hn | ⟨g, cap, cur, rfl, hbb, rest⟩
  · exact .inl hn
  · exact .inr ⟨g, cap, cur, rfl, by omega, rest⟩
theorem news3 {w : World} {B : Nat} {v0 v1 v2 : Value} (h0 : w.cell? ⟨B, 0, none⟩ = some v0) (h1 : w.cell? ⟨B, 1, none⟩ = some v1) (h2 : w.cell? ⟨B, 2, none⟩ = some v2) :
    ∀ j u, ([v0, v1, v2] : List Value)[j]? = some u → w.cell? ((⟨B, 0, none⟩ : Addr).add j) = some u := by
  intro j u hj
  have e : (⟨B, 0, none⟩ : Addr).add j = ⟨B, j, none⟩ := by unfold Addr.add; split <;> simp_all
  rw [e]
  match j, hj with
  | 0, hj => cases hj; exact h0
  | 1, hj => cases hj; exact h1
  | 2, hj => cases hj; exact h2
theorem oneCells3 (v0 v1 v2 : Value) (h0 : v0.oneCell' = true) (h1 : v1.oneCell' = true) (h2 : v2.oneCell' = true) : ∀ u ∈ ([v0, v1, v2] : List Value), u.oneCell' = true := by
  intro u hu
  simp only [List.mem_cons, List.not_mem_nil, or_false] at hu
  rcases hu with rfl | rfl | rfl <;> assumption
/-- All that lies below a bound is as it was, but for block B. -/
def KB (base B : Nat) (w w' : World) : Prop := Below (min base B) w w' ∧ ∀ k, k < base → k ≠ B → w'.heap[k]? = w.heap[k]?
theorem KB.of_below {base B : Nat} {w w' : World} (h : Below base w w') : KB base B w w' := ⟨h.mono (Nat.min_le_left _ _), fun k hk _ => h.block k hk⟩
theorem KB.trans {base B : Nat} {w w1 w2 : World} (h : KB base B w w1) (h' : KB base B w1 w2) : KB base B w w2 := ⟨h.1.trans h'.1, fun k hk hn => (h'.2 k hk hn).trans (h.2 k hk hn)⟩
theorem KB.set {base B j : Nat} {w w' : World} {v : Value} (h : KB base B w w') : KB base B w (w'.setCell ⟨B, j, none⟩ v) :=
  ⟨h.1.trans ((Below.refl _ w').setCell (p := ⟨B, j, none⟩) (Nat.min_le_right _ _) v), fun k hk hn => (Below.heap_setCell w' ⟨B, j, none⟩ v k hn).trans (h.2 k hk hn)⟩
/-- What a change of the view in block B leaves. -/
def ChgP (base B : Nat) (w : World) (ok : Bool) (e : Nat) (lv : Lv) (l : List Mem) (en : Ending) (w' : World) : Prop :=
  ∃ s, en = .returned (.bool ok) ∧ Blk w' B (vC e s lv) 28 ∧ MemsAt w' s l ∧ KB base B w w'
theorem Blk.grown {w w' : World} {B : Nat} {cs : Array Value} {T : TypeId} {row : Option Nat} (h : Blk w B cs T) (hg : w.grownBy w' row) (hne : some B ≠ row) : Blk w' B cs T := (hg.block B h.lt hne).trans h
theorem OwnM.mems {w : World} {base : Nat} {s : Value} {l : List Mem} (h : OwnM w base s l) : MemsAt w s l := mems_own h rfl
theorem MemsAt.set {w : World} {g off n c B j : Nat} {v : Value} {l : List Mem} (h : MemsAt w (.slice (some ⟨g, off, none⟩) n c) l) (hne : g ≠ B) : MemsAt (w.setCell ⟨B, j, none⟩ v) (.slice (some ⟨g, off, none⟩) n c) l := by
  rcases h with ⟨h, _⟩ | ⟨b', off', cap', he, hb, hc⟩
  · cases h
  · simp only [Value.slice.injEq, Option.some.injEq, Addr.mk.injEq] at he
    obtain ⟨⟨rfl, rfl, _⟩, rfl, rfl⟩ := he
    have e : ∀ o, (w.setCell ⟨B, j, none⟩ v).cell? ⟨g, o, none⟩ = w.cell? ⟨g, o, none⟩ := fun o => World.cell?_setCell_other w _ _ _ (fun e => by cases e; exact hne rfl)
    refine .inr ⟨g, off, c, rfl, by simpa using hb, fun i hi => ?_⟩
    rw [e, e, e]
    exact hc i hi
set_option maxHeartbeats 1000000 in
theorem add_yes (base B e : Nat) (s : Value) (lv : Lv) (l : List Mem) (k life : Nat) (w : World) (hl : l.length ≤ 40) (hk8 : k < 8) (hlf : life < 256) (he : e < 4294967295) (hv : Blk w B (vC e s lv) 28) (hs : OwnM w base s l) (hbw : base ≤ w.heap.size) (hfr : freeB (k + 1) life lv l = true) :
    Calls Try.prog 27 #[.pointer (some ⟨B, 0, none⟩), .int .u8 (k + 1 : Nat), .int .u8 life] w (ChgP base B w true (e + 1) (lv.set k life) (l ++ [⟨k + 1, life, false⟩])) := by
  have HO := Lib.hid hs
  have HV := Lib.hid hv
  have HFR := Lib.hid hfr
  have hBw := hv.lt
  have HL := Lib.hid hl
  obtain ⟨i0, hi0, hz0, hz1, hz2⟩ := infoP52
  have HI := Lib.hid (And.intro hi0 (And.intro hz0 (And.intro hz1 hz2)))
  clear hs hv hfr hl hi0 hz0 hz1 hz2
  have he1 : ¬ e = 4294967295 := by omega
  go_enter Try.func27, Try.ntmps27
  go_upto_region 3 with (first | (go_at_call 32; (refine (free_any B e s lv l (k + 1) life _ HL.out (by omega) hlf HV.out HO.out.mems).mono ?_); rw [HFR.out]; rintro en w1 ⟨rfl, hB⟩; have HB := Lib.hid hB; clear hB) | (go_at_call 33; (with_reducible refine (last_any B e s lv _ (HV.out.on HB.out)).mono ?_); rw [decide_eq_false he1]; rintro en w2 ⟨rfl, rfl⟩))
  obtain ⟨d0, d1, d2, d3, d4, d5, d6, d7, d8, d9⟩ := (HV.out.on HB.out).ten
  have hlt1 : B < w1.heap.size := (HV.out.on HB.out).lt
  have hne1 : B ≠ w1.heap.size := by omega
  have HOA := Lib.hid ((own_below HO.out HB.out).alloc (.cells #[.int .u8 (k + 1), .int .u8 life, .bool false] 52))
  go_wp2_with (at_builtin; refine wpList_append_own1 _ rfl _ _ 25 rfl base 52 i0 _ 3 3 Try.underlying25 HI.out.1 HI.out.2.1 HI.out.2.2.1 HI.out.2.2.2 rfl (by decide) s l.length (mRow l) rfl HOA.out ⟨w1.heap.size, 0, none⟩ 1 1 [.int .u8 (k + 1), .int .u8 life, .bool false] rfl rfl ?qn (oneCells3 _ _ _ rfl rfl rfl) (by have := HL.out; unfold maxLen; omega) (by have := HL.out; omega) (by have := HB.out.size; simp; omega) (by decide) ?_)
  case qn => exact news3 (by simp) (by simp) (by simp)
  intro g cap w3 hg hown hgrow
  have HOW : Hid (OwnM w3 base (.slice (some ⟨g, 0, none⟩) (l.length + 1) cap) (l ++ [⟨k + 1, life, false⟩])) := Lib.hid (by unfold OwnM; rw [mRow_snoc, List.length_append]; exact hown)
  have HV3 := Lib.hid ((((HV.out.on HB.out).alloc (.cells #[.int .u8 (k + 1), .int .u8 life, .bool false] 52)).grown hgrow (Ne.symm (own_ne (own_below HO.out HB.out) (HV.out.on HB.out) (by decide)))))
  have HB3 : Hid (Below base w w3) := Lib.hid ((((HB.out.mono (by omega)).alloc (by have := HB.out.size; omega) _).grown hgrow (by have := HB.out.size; simp; omega) (fun j hj => (HO.out.lt j hj).1)))
  have hgB : g ≠ B := fun e => own_ne HOW.out HV3.out (by decide) (by rw [e]; rfl)
  clear hown hgrow d0 d1 d2 d3 d4 d5 d6 d7 d8 d9
  obtain ⟨d0, d1, d2, d3, d4, d5, d6, d7, d8, d9⟩ := HV3.out.ten
  have f0 := HV3.out.frozen 0
  have f1 := HV3.out.frozen 1
  have fk := HV3.out.frozen (2 + k)
  have dk := HV3.out.cell (2 + k)
  rw [vC_get _ _ _ hk8] at dk
  clear hlt1 hne1
  go_wp2
  go_ret
  refine ⟨.slice (some ⟨g, 0, none⟩) (l.length + 1) cap, rfl, ?_, ?_, ?_⟩
  · exact Blk.set (Blk.set (Blk.set HV3.out 1 _ (vC e (.slice (some ⟨g, 0, none⟩) (l.length + 1) cap) lv) rfl) (2 + k) _ (vC e (.slice (some ⟨g, 0, none⟩) (l.length + 1) cap) (lv.set k life)) (vC_set _ _ _ _ hk8)) 0 _ _ rfl
  · exact ((HOW.out.mems.set hgB).set hgB).set hgB
  · exact (((KB.of_below HB3.out).set).set).set
theorem chg_no {base B e : Nat} {s : Value} {lv : Lv} {l : List Mem} {w w' : World} (hv : Blk w B (vC e s lv) 28) (hs : MemsAt w s l) (hB : Below w.heap.size w w') (hb : base ≤ w.heap.size) : ChgP base B w false e lv l (.returned (.bool false)) w' :=
  ⟨s, rfl, hv.on hB, hs.on hB, .of_below (hB.mono hb)⟩
set_option maxHeartbeats 1000000 in
theorem add_no (base B e : Nat) (s : Value) (lv : Lv) (l : List Mem) (node life : Nat) (w : World) (hl : l.length ≤ 40) (hn8 : node < 256) (hlf : life < 256) (hv : Blk w B (vC e s lv) 28) (hs : MemsAt w s l) (hbB : base ≤ w.heap.size) (hno : freeB node life lv l = false ∨ e = 4294967295) :
    Calls Try.prog 27 #[.pointer (some ⟨B, 0, none⟩), .int .u8 node, .int .u8 life] w (ChgP base B w false e lv l) := by
  have HS := Lib.hid hs
  have HV := Lib.hid hv
  have HL := Lib.hid hl
  have HE := Lib.hid hno
  clear hs hv hl hno
  obtain ⟨fb, hfb⟩ : ∃ fb, freeB node life lv l = fb := ⟨_, rfl⟩
  have HFR := Lib.hid hfb
  clear hfb
  cases fb with
  | false =>
    go_enter Try.func27, Try.ntmps27
    go_wp2_with (first | (go_at_call 32; (refine (free_any B e s lv l node life _ HL.out hn8 hlf HV.out HS.out).mono ?_); rw [HFR.out]; rintro en w1 ⟨rfl, hB⟩; have HB := Lib.hid hB; clear hB))
    go_ret
    exact chg_no HV.out HS.out HB.out hbB
  | true =>
    have he1 : e = 4294967295 := by
      rcases HE.out with h | h
      · rw [HFR.out] at h; cases h
      · exact h
    have HE1 := Lib.hid he1
    clear he1
    go_enter Try.func27, Try.ntmps27
    go_wp2_with (first | (go_at_call 32; (refine (free_any B e s lv l node life _ HL.out hn8 hlf HV.out HS.out).mono ?_); rw [HFR.out]; rintro en w1 ⟨rfl, hB⟩; have HB := Lib.hid hB; clear hB) | (go_at_call 33; (with_reducible refine (last_any B e s lv _ (HV.out.on HB.out)).mono ?_); rw [decide_eq_true HE1.out]; rintro en w2 ⟨rfl, rfl⟩))
    go_ret
    exact chg_no HV.out HS.out HB.out hbB
end Go.Proofs.Ytkgahhfemlebmaa
