/-
  Frame's encoder: its parts, a row that the call owns.
-/
import Derived.Test.YtodajejjhfpdmaaDoorOctC
import Derived.Test.YtodajejjhfpdmaaDoorGen
import Derived.Deep.AppendLies
import Derived.Deep.RegionLaw
import Derived.Deep.RegionHeld
import Derived.StillTailTactics
namespace Go.Proofs.YtodajejjhfpdmaaDoor
open Go.RowKit Go.Instr

/-- The cells of parts, one behind the other. -/
def pRow (ps : List PartV) : List Value := ps.flatMap fun p => [.int .i64 p.k, .int .u64 p.n, .int .i64 p.z, .string p.s]
theorem pRow_snoc (l : List PartV) (p : PartV) : pRow (l ++ [p]) = pRow l ++ [.int .i64 p.k, .int .u64 p.n, .int .i64 p.z, .string p.s] := by simp [pRow]
theorem pRow_app (l k : List PartV) : pRow (l ++ k) = pRow l ++ pRow k := by simp [pRow]
theorem pRow_len (l : List PartV) : (pRow l).length = l.length * 4 := by
  induction l with
  | nil => rfl
  | cons a l ih => simp only [pRow, List.flatMap_cons, List.length_append, List.length_cons, List.length_nil] at ih ⊢; omega
theorem Tryd.info119 : (Tryd.prog.info? 119).map (fun i => (i.zero, i.size, i.bytes)) = some (some (.agg #[.int .i64 0, .int .u64 0, .int .i64 0, .string ⟨#[]⟩]), 4, 40) := by kernel_rfl
theorem infoP119 : ∃ i, Tryd.prog.info? 119 = some i ∧ i.zero = some (.agg #[.int .i64 0, .int .u64 0, .int .i64 0, .string ⟨#[]⟩]) ∧ i.size = 4 ∧ i.bytes = 40 := by
  have h := Tryd.info119
  rcases hi : Tryd.prog.info? 119 with _ | i
  · rw [hi] at h; cases h
  · rw [hi] at h
    simp only [Option.map_some, Option.some.injEq, Prod.mk.injEq] at h
    exact ⟨i, rfl, h.1, h.2.1, h.2.2⟩
/-- The encoder in block E, its parts in a row of the call's own. -/
structure EncAt (base E : Nat) (w : World) (ps : List PartV) (v : Value) : Prop where
  e : Blk w E #[v] 87
  o : w.ownsRow base 119 4 v ps.length (pRow ps)
/-- All blocks but encoders' and rows of parts are as they were; so are iterators over strings. -/
structure KeptE (w w' : World) : Prop where
  blk : ∀ B cs T, Blk w B cs T → T ≠ 119 → T ≠ 87 → Blk w' B cs T
  iter : ∀ (k : Nat) (s : ByteArray) (p : Nat), w.heap[k]? = some (.stringIter s p) → w'.heap[k]? = some (.stringIter s p)
instance {w w' : World} : CoeFun (KeptE w w') (fun _ => ∀ B cs T, Blk w B cs T → T ≠ 119 → T ≠ 87 → Blk w' B cs T) := ⟨KeptE.blk⟩
theorem KeptE.refl (w : World) : KeptE w w := ⟨fun _ _ _ h _ _ => h, fun _ _ _ h => h⟩
theorem KeptE.trans {w w1 w2 : World} (h1 : KeptE w w1) (h2 : KeptE w1 w2) : KeptE w w2 := ⟨fun B cs T h a b => h2.blk B cs T (h1.blk B cs T h a b) a b, fun k s p h => h2.iter k s p (h1.iter k s p h)⟩
theorem KeptE.of {w w' : World} (h : Below w.heap.size w w') : KeptE w w' := ⟨fun _ _ _ hb _ _ => hb.on h, fun k _ _ hk => (h.block k (Array.getElem?_eq_some_iff.1 hk).1).trans hk⟩
theorem own_ne_iter {w : World} {base : Nat} {e : TypeId} {size : Nat} {v : Value} {n : Nat} {xs : List Value} {k : Nat} {s : ByteArray} {p : Nat} (h : w.ownsRow base e size v n xs) (hk : w.heap[k]? = some (.stringIter s p)) : v.ownBlock ≠ some k := by
  intro he
  rcases h.2 with ⟨rfl, _⟩ | ⟨g, cap, cur, rfl, _, hg, _⟩
  · cases he
  · cases he
    rw [hk] at hg
    cases hg
/-- An append to the encoder's row, and its store. -/
theorem KeptE.step {w w4 w8 : World} {E base n : Nat} {o : Obj} {v u u0 : Value} {xs : List Value} (hB : Below w.heap.size w w4) (ho : (w4.alloc o).ownsRow base 119 4 v n xs) (hg : (w4.alloc o).grownBy w8 v.ownBlock) (he : Blk w8 E #[u0] 87) :
    KeptE w (w8.setCell ⟨E, 0, none⟩ u) := by
  refine ⟨fun B cs' T' hb h1 h2 => ?_, fun k s p hk => ?_⟩
  · have hB8 := ((hb.on hB).alloc o).grown hg (Ne.symm (own_ne ho ((hb.on hB).alloc o) (Ne.symm h1)))
    exact hB8.set_other 0 _ (Blk.differ hB8 he h2)
  · have hlt : k < w.heap.size := (Array.getElem?_eq_some_iff.1 hk).1
    have h4 : (w4.alloc o).heap[k]? = some (.stringIter s p) := by
      have h := (hB.block k hlt).trans hk
      exact (((Below.refl w4.heap.size w4).alloc (Nat.le_refl _) o).block k (Nat.lt_of_lt_of_le hlt hB.size)).trans h
    have h8 := (hg.block k (Array.getElem?_eq_some_iff.1 h4).1 (Ne.symm (own_ne_iter ho h4))).trans h4
    refine (Below.heap_setCell w8 ⟨E, 0, none⟩ u k ?_).trans h8
    intro e
    subst e
    have h9 : w8.heap[k]? = _ := he
    rw [h8] at h9
    cases h9
/-- What a call of the encoder's leaves: the parts, and all other older blocks. -/
def EncP (base E : Nat) (w : World) (ps : List PartV) (en : Ending) (w' : World) : Prop := (∃ v, EncAt base E w' ps v) ∧ (KB base E w w' ∧ KeptE w w') ∧ en = .returned (.tuple #[])
/-- A number of one byte. -/
def n1 (n : Nat) : PartV := ⟨1, n, 1, ⟨#[]⟩⟩
def n4 (n : Nat) : PartV := ⟨1, n, 4, ⟨#[]⟩⟩
theorem own_setE {w : World} {base : Nat} {e : TypeId} {size : Nat} {v : Value} {n : Nat} {xs : List Value} {B j : Nat} {u : Value} {cs : Array Value} {T : TypeId} (h : w.ownsRow base e size v n xs) (hB : Blk w B cs T) (hT : T ≠ e) : (w.setCell ⟨B, j, none⟩ u).ownsRow base e size v n xs := by
  have hne := Ne.symm (own_ne h hB (Ne.symm hT))
  refine ⟨h.1, ?_⟩
  rcases h.2 with hn | ⟨g, cap, cur, rfl, hb, hg, rest⟩
  · exact .inl hn
  · exact .inr ⟨g, cap, cur, rfl, hb, (Below.heap_setCell w ⟨B, j, none⟩ u g (fun e => hne (by subst e; rfl))).trans hg, rest⟩
theorem num_lit (n : Nat) (z : Int) (w : World) : Calls Tryd.prog 42 #[.int .u64 n, .int .i64 z] w fun e w' => e = .returned (.agg #[.int .i64 1, .int .u64 n, .int .i64 z, .string ⟨#[]⟩]) ∧ Below w.heap.size w w' := num_any n z w
theorem newsP {w : World} {B : Nat} {v0 v1 v2 v3 : Value} (h0 : w.cell? ⟨B, 0, none⟩ = some v0) (h1 : w.cell? ⟨B, 1, none⟩ = some v1) (h2 : w.cell? ⟨B, 2, none⟩ = some v2) (h3 : w.cell? ⟨B, 3, none⟩ = some v3) :
    ∀ j u, ([v0, v1, v2, v3] : List Value)[j]? = some u → w.cell? ((⟨B, 0, none⟩ : Addr).add j) = some u := by
  intro j u hj
  have e : (⟨B, 0, none⟩ : Addr).add j = ⟨B, j, none⟩ := by unfold Addr.add; split <;> simp_all
  rw [e]
  match j, hj with
  | 0, hj => cases hj; exact h0
  | 1, hj => cases hj; exact h1
  | 2, hj => cases hj; exact h2
  | 3, hj => cases hj; exact h3
theorem onesP {v0 v1 v2 v3 : Value} (h0 : v0.oneCell' = true) (h1 : v1.oneCell' = true) (h2 : v2.oneCell' = true) (h3 : v3.oneCell' = true) : ∀ u ∈ ([v0, v1, v2, v3] : List Value), u.oneCell' = true := by
  intro u hu
  simp only [List.mem_cons, List.not_mem_nil, or_false] at hu
  rcases hu with rfl | rfl | rfl | rfl <;> assumption
/-- The loop over the numbers that are handed over: block G. -/
def OneLoop (base E : Nat) (ps : List PartV) (f : Nat → PartV) (xs : List Nat) (w : World) (i : Value) (wr : World) : Prop :=
  ∃ k v, k ≤ xs.length ∧ i = .int .i64 k ∧ EncAt base E wr (ps ++ (xs.take k).map f) v ∧ KeptE w wr ∧ KB base E w wr
set_option maxHeartbeats 2000000 in
theorem one_any (base E G off : Nat) (cs : Array Value) (T : TypeId) (ps : List PartV) (v : Value) (cap : Nat) (xs : List Nat) (w : World) (h : EncAt base E w ps v) (_hE : E < base) (hb : base ≤ w.heap.size) (hl : ps.length + xs.length ≤ 400)
    (hG : Blk w G cs T) (hT : T ≠ 119 ∧ T ≠ 87) (hcs : ∀ i (hi : i < xs.length), cs[off + i]? = some (.int .u8 xs[i]) ∧ xs[i] < 256) :
    Calls Tryd.prog 19 #[.pointer (some ⟨E, 0, none⟩), .slice (some ⟨G, off, none⟩) xs.length cap] w (EncP base E w (ps ++ xs.map n1)) := by
  obtain ⟨i0, hi0, hz0, hz1, hz2⟩ := infoP119
  have HI := Lib.hid (And.intro hi0 (And.intro hz0 (And.intro hz1 hz2)))
  have HCS := Lib.hid hcs
  have HT := Lib.hid hT
  clear hi0 hz0 hz1 hz2 hcs hT
  have HST : Hid (OneLoop base E ps n1 xs w (.int .i64 0) w) := Lib.hid ⟨0, v, Nat.zero_le _, rfl, by simpa using h, KeptE.refl _, KB.of_below (Below.refl _ _)⟩
  have HG0 := Lib.hid hG
  clear h hG
  obtain ⟨n, hn⟩ : ∃ n, n = xs.length := ⟨_, rfl⟩
  rw [← hn] at hl ⊢
  have HN := Lib.hid hn
  clear hn
  go_enter Tryd.func19, Tryd.ntmps19
  go_wp2_with fail
  go_loopw [8] (fun i wr => OneLoop base E ps n1 xs w i wr) (fun i _ => n - (intOf i).toNat)
  case atStart => exact HST.out
  case round =>
    obtain ⟨k, v', hk, rfl, he, hg, hkb⟩ := hrel
    clear HST
    rw [← HN.out] at hk
    have HE := Lib.hid he
    have HG := Lib.hid (hg G cs T HG0.out HT.out.1 HT.out.2)
    have HKE := Lib.hid hg
    have HK := Lib.hid hkb
    clear he hg hkb
    by_cases hlt : k < n
    · obtain ⟨q0, hx⟩ := HCS.out k (by rw [← HN.out]; exact hlt)
      obtain ⟨x, hxe⟩ : ∃ x, x = xs[k]'(by rw [← HN.out]; exact hlt) := ⟨_, rfl⟩
      rw [← hxe] at q0 hx
      have HX : Hid (xs.take (k + 1) = xs.take k ++ [x]) := Lib.hid (by rw [hxe, List.take_succ_eq_append_getElem (by rw [← HN.out]; exact hlt)])
      clear hxe
      have y0 : wr.cell? ⟨G, off + k, none⟩ = some (.int .u8 x) := (HG.out.cell _).trans q0
      have e0 : wr.cell? ⟨E, 0, none⟩ = some v' := HE.out.e.cell 0
      have f0 := HE.out.e.frozen 0
      have hEw : E < wr.heap.size := HE.out.e.lt
      obtain ⟨c, hc⟩ : ∃ c, c = ps ++ (xs.take k).map n1 := ⟨_, rfl⟩
      rw [← hc] at HE
      have hcl : c.length = ps.length + k := by rw [hc]; simp; have := HN.out; omega
      have HC := Lib.hid hc
      have HBR : Hid (base ≤ wr.heap.size) := Lib.hid (Nat.le_trans hb HK.out.1.size)
      clear hc q0
      have hw : IntKind.u64.wrap (x : Int) = (x : Int) := by rw [IntWalk.u64_in _ (by omega)]
      go_upto_region 3 with fail
      go_region_law (first | (refine step_calls2 rfl 42 Tryd.func42 (by kernel_rfl) rfl rfl (.int .u64 x) (.int .i64 1) rfl rfl ?_; refine Calls.mono (num_lit x 1 _) ?_; rintro en w4 ⟨rfl, hB4⟩; refine ⟨_, rfl, ?_⟩; have hB5 := m_below_on (show Below wr.heap.size wr wr.drew from ⟨rfl, rfl, rfl, Nat.le_refl _, fun _ _ => rfl⟩) hB4; have e1 := (hB5.cell (p := ⟨E, 0, none⟩) hEw).trans e0; have HE4 := Lib.hid (And.intro (HE.out.e.on hB5) (own_below HE.out.o hB5)); have HB4 := Lib.hid hB5; have l1 : E < w4.heap.size := Nat.lt_of_lt_of_le hEw hB5.size; have l2 : E ≠ w4.heap.size := Nat.ne_of_lt l1; have HBW : Hid (base ≤ w4.heap.size) := Lib.hid (Nat.le_trans HBR.out hB5.size); clear hB4 hB5) | (refine step_append_own1 rfl (.tmp 16) (.tmp 20) 85 rfl base 119 i0 _ 4 40 Tryd.underlying85 HI.out.1 HI.out.2.1 HI.out.2.2.1 HI.out.2.2.2 rfl (by decide) v' c.length (pRow c) rfl (own_below HE4.out.2 (by go_grown)) _ 1 1 [.int .i64 1, .int .u64 x, .int .i64 1, .string ⟨#[]⟩] rfl rfl (newsP (by simp [go_sem]) (by simp [go_sem]) (by simp [go_sem]) (by simp [go_sem])) (onesP rfl rfl rfl rfl) (by unfold maxLen; omega) (by omega) (Nat.le_trans HBW.out (by simp)) (by decide) ?_; intro g' cap' w8 hg' hown hgr; have he8 := (HE4.out.1.on (by go_grown)).grown hgr (Ne.symm (own_ne (own_below HE4.out.2 (by go_grown)) (HE4.out.1.on (by go_grown)) (by decide))); have e2 := he8.cell 0; have f2 := he8.frozen 0; have HE8 := Lib.hid he8; have HO8 := Lib.hid hown; have HG8 := Lib.hid hgr; simp at e2; clear he8 hown hgr))
      all_goals
        go_wp2_with fail
        go_roundw
        case rel =>
          have hoA := own_below HE4.out.2 (show Below w4.heap.size w4 (w4.alloc (.cells #[.int .i64 1, .int .u64 x, .int .i64 1, .string ⟨#[]⟩] 119)) by go_grown)
          have hB8 : Below base wr w8 := (Below.alloc (HB4.out.mono HBR.out) HBW.out (.cells #[.int .i64 1, .int .u64 x, .int .i64 1, .string ⟨#[]⟩] 119)).grown HG8.out (Nat.le_trans HBW.out (by simp)) (fun j hj => (hoA.lt j hj).1)
          have hk8 : KeptE wr (w8.setCell ⟨E, 0, none⟩ (.slice (some ⟨g', 0, none⟩) (ps.length + k + 1) cap')) := KeptE.step HB4.out hoA HG8.out HE8.out
          have hcc : ps ++ (xs.take (k + 1)).map n1 = c ++ [n1 x] := by rw [HX.out, List.map_append, HC.out, List.append_assoc]; rfl
          refine ⟨k + 1, .slice (some ⟨g', 0, none⟩) (ps.length + k + 1) cap', by have := HN.out; omega, by go_num, ⟨Blk.set HE8.out 0 _ _ rfl, ?_⟩, HKE.out.trans hk8, (HK.out.trans (KB.of_below hB8)).set⟩
          rw [hcc, pRow_snoc, List.length_append]
          have ho := own_setE (u := .slice (some ⟨g', 0, none⟩) (ps.length + k + 1) cap') (j := 0) HO8.out HE8.out (by decide)
          rw [hcl] at ho ⊢
          exact ho
        case measure => simp [intOf]; omega
    · obtain rfl : k = n := by omega
      go_wp2
      go_end0
      have hx : xs.take k = xs := by rw [HN.out]; exact List.take_length
      have he := HE.out
      rw [hx] at he
      exact ⟨⟨_, he⟩, ⟨HK.out, HKE.out⟩, rfl⟩
set_option maxHeartbeats 2000000 in
theorem four_any (base E G off : Nat) (cs : Array Value) (T : TypeId) (ps : List PartV) (v : Value) (cap : Nat) (xs : List Nat) (w : World) (h : EncAt base E w ps v) (_hE : E < base) (hb : base ≤ w.heap.size) (hl : ps.length + xs.length ≤ 400)
    (hG : Blk w G cs T) (hT : T ≠ 119 ∧ T ≠ 87) (hcs : ∀ i (hi : i < xs.length), cs[off + i]? = some (.int .u32 xs[i]) ∧ xs[i] < 4294967296) :
    Calls Tryd.prog 43 #[.pointer (some ⟨E, 0, none⟩), .slice (some ⟨G, off, none⟩) xs.length cap] w (EncP base E w (ps ++ xs.map n4)) := by
  obtain ⟨i0, hi0, hz0, hz1, hz2⟩ := infoP119
  have HI := Lib.hid (And.intro hi0 (And.intro hz0 (And.intro hz1 hz2)))
  have HCS := Lib.hid hcs
  have HT := Lib.hid hT
  clear hi0 hz0 hz1 hz2 hcs hT
  have HST : Hid (OneLoop base E ps n4 xs w (.int .i64 0) w) := Lib.hid ⟨0, v, Nat.zero_le _, rfl, by simpa using h, KeptE.refl _, KB.of_below (Below.refl _ _)⟩
  have HG0 := Lib.hid hG
  clear h hG
  obtain ⟨n, hn⟩ : ∃ n, n = xs.length := ⟨_, rfl⟩
  rw [← hn] at hl ⊢
  have HN := Lib.hid hn
  clear hn
  go_enter Tryd.func43, Tryd.ntmps43
  go_wp2_with fail
  go_loopw [8] (fun i wr => OneLoop base E ps n4 xs w i wr) (fun i _ => n - (intOf i).toNat)
  case atStart => exact HST.out
  case round =>
    obtain ⟨k, v', hk, rfl, he, hg, hkb⟩ := hrel
    clear HST
    rw [← HN.out] at hk
    have HE := Lib.hid he
    have HG := Lib.hid (hg G cs T HG0.out HT.out.1 HT.out.2)
    have HKE := Lib.hid hg
    have HK := Lib.hid hkb
    clear he hg hkb
    by_cases hlt : k < n
    · obtain ⟨q0, hx⟩ := HCS.out k (by rw [← HN.out]; exact hlt)
      obtain ⟨x, hxe⟩ : ∃ x, x = xs[k]'(by rw [← HN.out]; exact hlt) := ⟨_, rfl⟩
      rw [← hxe] at q0 hx
      have HX : Hid (xs.take (k + 1) = xs.take k ++ [x]) := Lib.hid (by rw [hxe, List.take_succ_eq_append_getElem (by rw [← HN.out]; exact hlt)])
      clear hxe
      have y0 : wr.cell? ⟨G, off + k, none⟩ = some (.int .u32 x) := (HG.out.cell _).trans q0
      have e0 : wr.cell? ⟨E, 0, none⟩ = some v' := HE.out.e.cell 0
      have f0 := HE.out.e.frozen 0
      have hEw : E < wr.heap.size := HE.out.e.lt
      obtain ⟨c, hc⟩ : ∃ c, c = ps ++ (xs.take k).map n4 := ⟨_, rfl⟩
      rw [← hc] at HE
      have hcl : c.length = ps.length + k := by rw [hc]; simp; have := HN.out; omega
      have HC := Lib.hid hc
      have HBR : Hid (base ≤ wr.heap.size) := Lib.hid (Nat.le_trans hb HK.out.1.size)
      clear hc q0
      have hw : IntKind.u64.wrap (x : Int) = (x : Int) := by rw [IntWalk.u64_in _ (by omega)]
      go_upto_region 3 with fail
      go_region_law (first | (refine step_calls2 rfl 42 Tryd.func42 (by kernel_rfl) rfl rfl (.int .u64 x) (.int .i64 4) rfl rfl ?_; refine Calls.mono (num_lit x 4 _) ?_; rintro en w4 ⟨rfl, hB4⟩; refine ⟨_, rfl, ?_⟩; have hB5 := m_below_on (show Below wr.heap.size wr wr.drew from ⟨rfl, rfl, rfl, Nat.le_refl _, fun _ _ => rfl⟩) hB4; have e1 := (hB5.cell (p := ⟨E, 0, none⟩) hEw).trans e0; have HE4 := Lib.hid (And.intro (HE.out.e.on hB5) (own_below HE.out.o hB5)); have HB4 := Lib.hid hB5; have l1 : E < w4.heap.size := Nat.lt_of_lt_of_le hEw hB5.size; have l2 : E ≠ w4.heap.size := Nat.ne_of_lt l1; have HBW : Hid (base ≤ w4.heap.size) := Lib.hid (Nat.le_trans HBR.out hB5.size); clear hB4 hB5) | (refine step_append_own1 rfl (.tmp 16) (.tmp 20) 85 rfl base 119 i0 _ 4 40 Tryd.underlying85 HI.out.1 HI.out.2.1 HI.out.2.2.1 HI.out.2.2.2 rfl (by decide) v' c.length (pRow c) rfl (own_below HE4.out.2 (by go_grown)) _ 1 1 [.int .i64 1, .int .u64 x, .int .i64 4, .string ⟨#[]⟩] rfl rfl (newsP (by simp [go_sem]) (by simp [go_sem]) (by simp [go_sem]) (by simp [go_sem])) (onesP rfl rfl rfl rfl) (by unfold maxLen; omega) (by omega) (Nat.le_trans HBW.out (by simp)) (by decide) ?_; intro g' cap' w8 hg' hown hgr; have he8 := (HE4.out.1.on (by go_grown)).grown hgr (Ne.symm (own_ne (own_below HE4.out.2 (by go_grown)) (HE4.out.1.on (by go_grown)) (by decide))); have e2 := he8.cell 0; have f2 := he8.frozen 0; have HE8 := Lib.hid he8; have HO8 := Lib.hid hown; have HG8 := Lib.hid hgr; simp at e2; clear he8 hown hgr))
      all_goals
        go_wp2_with fail
        go_roundw
        case rel =>
          have hoA := own_below HE4.out.2 (show Below w4.heap.size w4 (w4.alloc (.cells #[.int .i64 1, .int .u64 x, .int .i64 4, .string ⟨#[]⟩] 119)) by go_grown)
          have hB8 : Below base wr w8 := (Below.alloc (HB4.out.mono HBR.out) HBW.out (.cells #[.int .i64 1, .int .u64 x, .int .i64 4, .string ⟨#[]⟩] 119)).grown HG8.out (Nat.le_trans HBW.out (by simp)) (fun j hj => (hoA.lt j hj).1)
          have hk8 : KeptE wr (w8.setCell ⟨E, 0, none⟩ (.slice (some ⟨g', 0, none⟩) (ps.length + k + 1) cap')) := KeptE.step HB4.out hoA HG8.out HE8.out
          have hcc : ps ++ (xs.take (k + 1)).map n4 = c ++ [n4 x] := by rw [HX.out, List.map_append, HC.out, List.append_assoc]; rfl
          refine ⟨k + 1, .slice (some ⟨g', 0, none⟩) (ps.length + k + 1) cap', by have := HN.out; omega, by go_num, ⟨Blk.set HE8.out 0 _ _ rfl, ?_⟩, HKE.out.trans hk8, (HK.out.trans (KB.of_below hB8)).set⟩
          rw [hcc, pRow_snoc, List.length_append]
          have ho := own_setE (u := .slice (some ⟨g', 0, none⟩) (ps.length + k + 1) cap') (j := 0) HO8.out HE8.out (by decide)
          rw [hcl] at ho ⊢
          exact ho
        case measure => simp [intOf]; omega
    · obtain rfl : k = n := by omega
      go_wp2
      go_end0
      have hx : xs.take k = xs := by rw [HN.out]; exact List.take_length
      have he := HE.out
      rw [hx] at he
      exact ⟨⟨_, he⟩, ⟨HK.out, HKE.out⟩, rfl⟩
theorem EncAt.on {base E : Nat} {w w' : World} {ps : List PartV} {v : Value} (h : EncAt base E w ps v) (hB : Below w.heap.size w w') : EncAt base E w' ps v := ⟨h.e.on hB, own_below h.o hB⟩
/-- A call of 'one' with one number, made for it. -/
theorem one_1 (base E : Nat) (ps : List PartV) (v : Value) (x : Nat) (w : World) (h : EncAt base E w ps v) (hE : E < base) (hb : base ≤ w.heap.size) (hl : ps.length ≤ 399) (hx : x < 256) :
    Calls Tryd.prog 19 #[.pointer (some ⟨E, 0, none⟩), .slice (some ⟨w.heap.size, 0, none⟩) 1 1] (w.alloc (.cells #[.int .u8 x] 5)) (EncP base E w (ps ++ [n1 x])) := by
  have hB : Below base w (w.alloc (.cells #[.int .u8 x] 5)) := (Below.refl _ _).alloc hb _
  refine (one_any base E w.heap.size 0 #[.int .u8 x] 5 ps v 1 [x] (w.alloc (.cells #[.int .u8 x] 5)) (h.on ((Below.refl _ _).alloc (Nat.le_refl _) _)) hE (by simp; omega) (by simp; omega) (Blk.new rfl) ⟨by decide, by decide⟩ (fun i hi => ?_)).mono fun en w' hp => ⟨hp.1, ⟨(KB.of_below hB).trans hp.2.1.1, (KeptE.of ((Below.refl _ _).alloc (Nat.le_refl _) _)).trans hp.2.1.2⟩, hp.2.2⟩
  obtain rfl : i = 0 := by simp at hi; omega
  exact ⟨rfl, hx⟩
/-- The part that a flag adds. -/
def nB (b : Bool) : PartV := n1 (if b then 1 else 0)
end Go.Proofs.YtodajejjhfpdmaaDoor
