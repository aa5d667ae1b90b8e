/-
  The walks of slices.Clone over members, and of view's free and add.
-/
import Derived.Test.YtkgahhfemlebmaaViewA
import Derived.Lib.SliceRun
namespace Go.Proofs.Ytkgahhfemlebmaa
open Go.RowKit Go.Instr

theorem Try.info52 : (Try.prog.info? 52).map (fun i => (i.zero, i.size, i.bytes)) = some (some (.agg #[.int .u8 0, .int .u8 0, .bool false]), 3, 3) := by kernel_rfl
theorem infoP52 : ∃ i, Try.prog.info? 52 = some i ∧ i.zero = some (.agg #[.int .u8 0, .int .u8 0, .bool false]) ∧ i.size = 3 ∧ i.bytes = 3 := by
  have h := Try.info52
  rcases hi : Try.prog.info? 52 with _ | i
  · rw [hi] at h; cases h
  · rw [hi] at h
    simp only [Option.map_some, Option.some.injEq, Prod.mk.injEq] at h
    exact ⟨i, rfl, h.1, h.2.1, h.2.2⟩
def mRow (l : List Mem) : List Value := l.flatMap fun m => [.int .u8 m.n, .int .u8 m.l, .bool m.r]
theorem mRow_snoc (l : List Mem) (m : Mem) : mRow (l ++ [m]) = mRow l ++ [.int .u8 m.n, .int .u8 m.l, .bool m.r] := by simp [mRow]
theorem mRow_app (l k : List Mem) : mRow (l ++ k) = mRow l ++ mRow k := by simp [mRow]
theorem mRow_len (l : List Mem) : (mRow l).length = l.length * 3 := by
  induction l with
  | nil => rfl
  | cons a l ih =>
    have : mRow (a :: l) = [.int .u8 a.n, .int .u8 a.l, .bool a.r] ++ mRow l := rfl
    rw [this, List.length_append, ih, List.length_cons]
    simp; omega
theorem mRow_one (l : List Mem) : ∀ u ∈ mRow l, u.oneCell' = true := by
  intro u hu
  obtain ⟨m, _, hm⟩ := List.mem_flatMap.1 hu
  simp only [List.mem_cons, List.not_mem_nil, or_false] at hm
  rcases hm with rfl | rfl | rfl <;> rfl
theorem flatK {α β : Type} (c : Nat) (f : α → List β) (hf : ∀ a, (f a).length = c) (l : List α) : ∀ (i j : Nat) (h : i < l.length), j < c → (l.flatMap f)[i * c + j]? = (f l[i])[j]? := by
  induction l with
  | nil => intro i j h; exact absurd h (Nat.not_lt_zero _)
  | cons a l ih =>
    intro i j h hj
    rw [List.flatMap_cons]
    cases i with
    | zero =>
      rw [Nat.zero_mul, Nat.zero_add, List.getElem?_append_left (by rw [hf]; exact hj)]
      rfl
    | succ i =>
      rw [List.getElem?_append_right (by rw [hf, Nat.succ_mul]; omega), hf, show (i + 1) * c + j - c = i * c + j by rw [Nat.succ_mul]; omega, ih i j (by simpa using h) hj]
      rfl
theorem mRow_at (l : List Mem) (i j : Nat) (h : i < l.length) (hj : j < 3) : (mRow l)[i * 3 + j]? = ([.int .u8 l[i].n, .int .u8 l[i].l, .bool l[i].r] : List Value)[j]? :=
  flatK 3 (fun m : Mem => [Value.int .u8 m.n, .int .u8 m.l, .bool m.r]) (fun _ => rfl) l i j h hj
/-- The cells that a slice of members leads to. -/
theorem MemsAt.row {w : World} {b off n cap : Nat} {l : List Mem} (h : MemsAt w (.slice (some ⟨b, off, none⟩) n cap) l) : ∀ j u, (mRow l)[j]? = some u → w.cell? ⟨b, off + j, none⟩ = some u := by
  rcases h with ⟨h, _⟩ | ⟨b', off', cap', he, hb, hc⟩
  · cases h
  · cases he
    intro j u hu
    have hlt : j < l.length * 3 := by
      have := (List.getElem?_eq_some_iff.1 hu).1
      rwa [mRow_len] at this
    have hi : j / 3 < l.length := by omega
    have hj : j / 3 * 3 + j % 3 = j := by omega
    rw [← hj, mRow_at l _ _ hi (by omega)] at hu
    obtain ⟨c0, c1, c2⟩ := hc _ hi
    have h3 : j % 3 < 3 := by omega
    rw [← hj]
    generalize j % 3 = q at hu h3 ⊢
    match q, h3 with
    | 0, _ => cases hu; exact c0
    | 1, _ => cases hu; rw [← Nat.add_assoc]; exact c1
    | 2, _ => cases hu; rw [← Nat.add_assoc]; exact c2
theorem own_cell {w : World} {base : Nat} {e : TypeId} {g k n cap size : Nat} {xs : List Value} {j : Nat} {v : Value} (h : w.ownsRow base e size (.slice (some ⟨g, 0, none⟩) n cap) k xs) (hv : xs[j]? = some v) : w.cell? ⟨g, 0 + j, none⟩ = some v := by
  have := h.cells (g := g) rfl j v hv
  have e : (⟨g, 0, none⟩ : Addr).add j = ⟨g, 0 + j, none⟩ := by unfold Addr.add; split <;> simp_all
  rw [e] at this
  exact this
theorem mems_own {w : World} {base : Nat} {e : TypeId} {v : Value} {k : Nat} {l : List Mem} (h : w.ownsRow base e 3 v k (mRow l)) (hk : l.length = k) : MemsAt w v l := by
  rcases h.2 with ⟨rfl, h0⟩ | ⟨g, cap, cur, rfl, hg⟩
  · have : l = [] := List.eq_nil_of_length_eq_zero (by omega)
    subst this
    exact .inl ⟨rfl, rfl⟩
  · refine .inr ⟨g, 0, cap, by rw [hk], (h.lt g rfl).2, fun i hi => ?_⟩
    have e0 := own_cell h (mRow_at l i 0 hi (by decide))
    have e1 := own_cell h (mRow_at l i 1 hi (by decide))
    have e2 := own_cell h (mRow_at l i 2 hi (by decide))
    exact ⟨e0, by rw [Nat.add_assoc]; exact e1, by rw [Nat.add_assoc]; exact e2⟩
/-- The members lie in a row of the call's own. -/
def OwnM (w : World) (base : Nat) (v : Value) (l : List Mem) : Prop := w.ownsRow base 52 3 v l.length (mRow l)
def CloneP (w : World) (l : List Mem) (e : Ending) (w' : World) : Prop := ∃ v', e = .returned v' ∧ OwnM w' w.heap.size v' l ∧ Below w.heap.size w w'
set_option maxHeartbeats 400000 in
theorem clone_any (s : Value) (l : List Mem) (w : World) (hl : l.length ≤ 40) (hs : MemsAt w s l) : Calls Try.prog 20 #[s] w (CloneP w l) := by
  rcases hs with ⟨rfl, rfl⟩ | ⟨b, off, cap, rfl, hb, hc⟩
  · have q25 : ∀ (w : World) (a : Option Addr) (n c n' c' : Nat), (binOp .eql 25 (.slice a n c) (.slice none n' c')).run Try.prog w = .ok (.bool a.isNone) w := fun w a n c n' c' => Lib.run_eql_slice_nil w _ _ a n c n' c' Try.underlying25
    go_enter Try.func20, Try.ntmps20
    go_wp2
    go_ret
    exact ⟨_, rfl, World.ownsRow_nil _ _ _ _, Below.refl _ _⟩
  · obtain ⟨i0, hi0, hz0, hz1, hz2⟩ := infoP52
    have hrow := Lib.hid (MemsAt.row (.inr ⟨b, off, cap, rfl, hb, hc⟩))
    have hlen := Lib.hid (mRow_len l)
    have HI := Lib.hid (And.intro hi0 (And.intro hz0 (And.intro hz1 hz2)))
    clear hc hi0 hz0 hz1 hz2
    obtain ⟨n, hn⟩ : ∃ n, n = l.length := ⟨_, rfl⟩
    rw [← hn] at hl hlen ⊢
    have HN := Lib.hid hn
    clear hn
    have q25 : ∀ (w : World) (a : Option Addr) (n c n' c' : Nat), (binOp .eql 25 (.slice a n c) (.slice none n' c')).run Try.prog w = .ok (.bool a.isNone) w := fun w a n c n' c' => Lib.run_eql_slice_nil w _ _ a n c n' c' Try.underlying25
    go_enter Try.func20, Try.ntmps20
    go_wp2_with (at_builtin; refine wpList_append_own _ rfl _ _ 25 rfl w.heap.size 52 i0 _ 3 3 Try.underlying25 HI.out.1 HI.out.2.1 HI.out.2.2.1 HI.out.2.2.2 rfl (by decide) _ 0 [] rfl (World.ownsRow_made w #[] 0 (Nat.le_refl _) (Nat.zero_le _) (by simp)) ⟨b, off, none⟩ n cap (mRow l) rfl hlen.out ?qc2 (mRow_one l) (by unfold maxLen; omega) (by omega) (by simp) ?_)
    case qc2 =>
      intro j u hj
      have e : (⟨b, off, none⟩ : Addr).add j = ⟨b, off + j, none⟩ := by unfold Addr.add; split <;> simp_all
      rw [e]
      have := hrow.out j u hj
      exact (World.cell?_alloc_some w _ _ (by rw [this]; rfl)).trans this
    intro v' w1 hown hgrow _
    have HO : Hid (OwnM w1 w.heap.size v' l) := Lib.hid (by unfold OwnM; rw [← HN.out]; simpa using hown)
    have HB : Hid (Below w.heap.size w w1) := ((Below.refl _ w).alloc (Nat.le_refl _) _).grown hgrow (by simp) (by intro k hk; simp [Value.ownBlock] at hk; omega)
    clear hown hgrow
    go_wp2
    go_ret
    exact ⟨v', rfl, HO.out, HB.out⟩
def Lv.get (l : Lv) : Nat → Nat
  | 0 => l.a
  | 1 => l.b
  | 2 => l.c
  | 3 => l.d
  | 4 => l.e
  | 5 => l.f
  | 6 => l.g
  | _ => l.h
def Lv.set (l : Lv) (k v : Nat) : Lv :=
  match k with
  | 0 => { l with a := v }
  | 1 => { l with b := v }
  | 2 => { l with c := v }
  | 3 => { l with d := v }
  | 4 => { l with e := v }
  | 5 => { l with f := v }
  | 6 => { l with g := v }
  | _ => { l with h := v }
theorem vC_get (e : Nat) (s : Value) (l : Lv) {k : Nat} (h : k < 8) : (vC e s l)[2 + k]? = some (.int .u8 (l.get k)) := by
  match k, h with
  | 0, _ => rfl
  | 1, _ => rfl
  | 2, _ => rfl
  | 3, _ => rfl
  | 4, _ => rfl
  | 5, _ => rfl
  | 6, _ => rfl
  | 7, _ => rfl
theorem vC_set (e : Nat) (s : Value) (l : Lv) {k : Nat} (v : Nat) (h : k < 8) : (vC e s l).setIfInBounds (2 + k) (.int .u8 v) = vC e s (l.set k v) := by
  match k, h with
  | 0, _ => rfl
  | 1, _ => rfl
  | 2, _ => rfl
  | 3, _ => rfl
  | 4, _ => rfl
  | 5, _ => rfl
  | 6, _ => rfl
  | 7, _ => rfl
/-- Whether a node can become a member in that life. -/
def freeB (node life : Nat) (lv : Lv) (l : List Mem) : Bool := decide (1 ≤ node ∧ node ≤ 8 ∧ life ≤ 200 ∧ lv.get (node - 1) < life ∧ idxOf (isNode node) l < 0 ∧ l.length < 8)
theorem Blk.ten {w : World} {B e : Nat} {s : Value} {lv : Lv} (h : Blk w B (vC e s lv) 28) : w.cell? ⟨B, 0, none⟩ = some (.int .u32 e) ∧ w.cell? ⟨B, 1, none⟩ = some s ∧ w.cell? ⟨B, 2, none⟩ = some (.int .u8 lv.a) ∧ w.cell? ⟨B, 3, none⟩ = some (.int .u8 lv.b) ∧ w.cell? ⟨B, 4, none⟩ = some (.int .u8 lv.c) ∧ w.cell? ⟨B, 5, none⟩ = some (.int .u8 lv.d) ∧ w.cell? ⟨B, 6, none⟩ = some (.int .u8 lv.e) ∧ w.cell? ⟨B, 7, none⟩ = some (.int .u8 lv.f) ∧ w.cell? ⟨B, 8, none⟩ = some (.int .u8 lv.g) ∧ w.cell? ⟨B, 9, none⟩ = some (.int .u8 lv.h) :=
  ⟨h.cell 0, h.cell 1, h.cell 2, h.cell 3, h.cell 4, h.cell 5, h.cell 6, h.cell 7, h.cell 8, h.cell 9⟩
/-- The slice value has that length. -/
theorem MemsAt.len {w : World} {s : Value} {l : List Mem} (h : MemsAt w s l) : ∃ a cap, s = .slice a l.length cap := by
  rcases h with ⟨rfl, rfl⟩ | ⟨b, off, cap, rfl, _⟩
  · exact ⟨_, _, rfl⟩
  · exact ⟨_, _, rfl⟩
set_option maxHeartbeats 1000000 in
theorem free_any (B e : Nat) (s : Value) (lv : Lv) (l : List Mem) (node life : Nat) (w : World) (hl : l.length ≤ 40) (hn8 : node < 256) (hlf : life < 256) (hv : Blk w B (vC e s lv) 28) (hs : MemsAt w s l) :
    Calls Try.prog 32 #[.pointer (some ⟨B, 0, none⟩), .int .u8 node, .int .u8 life] w fun en w' => en = .returned (.bool (freeB node life lv l)) ∧ Below w.heap.size w w' := by
  obtain ⟨aa, cap, rfl⟩ := hs.len
  have HS := Lib.hid hs
  have HV := Lib.hid hv
  clear hs hv
  by_cases h1 : 1 ≤ node
  · by_cases h2 : node ≤ 8
    · obtain ⟨k, rfl⟩ : ∃ k, node = k + 1 := ⟨node - 1, by omega⟩
      have hk := HV.out.cell (2 + k)
      rw [vC_get _ _ _ (by omega)] at hk
      obtain ⟨c0, c1, c2, c3, c4, c5, c6, c7, c8, c9⟩ := HV.out.ten
      have HF : Hid (freeB (k + 1) life lv l = decide (life ≤ 200 ∧ lv.get k < life ∧ idxOf (isNode (k + 1)) l < 0 ∧ l.length < 8)) := Lib.hid (by
        unfold freeB
        rw [Bool.eq_iff_iff]
        simp
        omega)
      generalize lv.get k = g at hk HF
      generalize hn : l.length = n at hl HS HF c1 HV ⊢
      obtain ⟨r, hr⟩ : ∃ r, r = idxOf (isNode (k + 1)) l := ⟨_, rfl⟩
      rw [← hr] at HF
      have HR := Lib.hid hr
      clear hr
      have HN := Lib.hid hn
      clear hn
      by_cases h3 : life ≤ 200
      · by_cases h4 : g < life
        · go_enter Try.func32, Try.ntmps32
          go_wp2_with (refine (find_any e _ lv l (k + 1) _ (by rw [HN.out]; exact hl) HS.out).mono ?_; rw [← HR.out]; rintro en w1 ⟨rfl, hB⟩; obtain ⟨d0, d1, d2, d3, d4, d5, d6, d7, d8, d9⟩ := (HV.out.on hB).ten; have HB := Lib.hid hB; clear hB)
          all_goals
            go_ret
            exact ⟨rbool (by rw [HF.out, Bool.eq_iff_iff]; simp; omega), HB.out⟩
        · go_enter Try.func32, Try.ntmps32
          go_wp2
          go_ret
          exact ⟨rbool (by rw [HF.out, Bool.eq_iff_iff]; simp; omega), Below.refl _ _⟩
      · go_enter Try.func32, Try.ntmps32
        go_wp2
        go_ret
        exact ⟨rbool (by rw [HF.out, Bool.eq_iff_iff]; simp; omega), Below.refl _ _⟩
    · have HF : Hid (freeB node life lv l = false) := Lib.hid (by unfold freeB; rw [Bool.eq_iff_iff]; simp; omega)
      go_enter Try.func32, Try.ntmps32
      go_wp2
      go_ret
      exact ⟨rbool (by rw [HF.out]), Below.refl _ _⟩
  · have HF : Hid (freeB node life lv l = false) := Lib.hid (by unfold freeB; rw [Bool.eq_iff_iff]; simp; omega)
    go_enter Try.func32, Try.ntmps32
    go_wp2
    go_ret
    exact ⟨rbool (by rw [HF.out]), Below.refl _ _⟩
end Go.Proofs.Ytkgahhfemlebmaa
