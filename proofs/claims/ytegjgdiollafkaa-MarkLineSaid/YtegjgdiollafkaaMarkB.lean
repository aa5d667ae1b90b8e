/-
  The walks of mark's Greatest and Highest and of the reference's Greatest: the maximum of a row of stamps or ballots.
-/
import Derived.Test.YtegjgdiollafkaaMarkA
namespace Go.Proofs.Ytegjgdiollafkaa
open Go.RowKit Go.Instr

/-- Block B of the memory is known whole. -/
def Blk (w : World) (B : Nat) (cs : Array Value) (T : TypeId) : Prop := w.heap[B]? = some (.cells cs T)
theorem Blk.cell {w : World} {B : Nat} {cs : Array Value} {T : TypeId} (h : Blk w B cs T) (j : Nat) : w.cell? ⟨B, j, none⟩ = cs[j]? := cell_of_row w B j _ T (0, 0) h
theorem Blk.frozen {w : World} {B : Nat} {cs : Array Value} {T : TypeId} (h : Blk w B cs T) (j : Nat) : w.frozen? ⟨B, j, none⟩ = false := by
  unfold World.frozen?
  rw [h]
  simp
theorem Blk.lt {w : World} {B : Nat} {cs : Array Value} {T : TypeId} (h : Blk w B cs T) : B < w.heap.size := (Array.getElem?_eq_some_iff.1 h).1
theorem Blk.below {w w' : World} {B k : Nat} {cs : Array Value} {T : TypeId} (h : Blk w B cs T) (hB : Below k w w') (hk : B < k) : Blk w' B cs T := (hB.block B hk).trans h
theorem Blk.on {w w' : World} {B : Nat} {cs : Array Value} {T : TypeId} (h : Blk w B cs T) (hB : Below w.heap.size w w') : Blk w' B cs T := h.below hB h.lt
theorem Blk.alloc {w : World} {B : Nat} {cs : Array Value} {T : TypeId} (h : Blk w B cs T) (o : Obj) : Blk (w.alloc o) B cs T := by
  have := Below.heap_alloc w o B h.lt
  exact this.trans h
theorem Blk.set {w : World} {B : Nat} {cs : Array Value} {T : TypeId} (h : Blk w B cs T) (j : Nat) (v : Value) (cs' : Array Value) (hcs : cs.setIfInBounds j v = cs') : Blk (w.setCell ⟨B, j, none⟩ v) B cs' T := by
  unfold Blk at h ⊢
  subst hcs
  simp [World.setCell, Array.getElem?_modify, h]
theorem Blk.set_other {w : World} {B C : Nat} {cs : Array Value} {T : TypeId} (h : Blk w B cs T) (j : Nat) (v : Value) (hne : B ≠ C) : Blk (w.setCell ⟨C, j, none⟩ v) B cs T := by
  exact (Below.heap_setCell w ⟨C, j, none⟩ v B hne).trans h
def topS (l : List S) : S := l.foldl (fun t s => if stLt t s then s else t) ⟨0, 0, 0⟩
def topM (l : List S) : S := l.foldl (fun t s => if markLt t s then s else t) ⟨0, 0, 0⟩
theorem topS_take {l : List S} {k : Nat} (h : k < l.length) : topS (l.take (k + 1)) = if stLt (topS (l.take k)) l[k] then l[k] else topS (l.take k) := by
  rw [List.take_succ_eq_append_getElem h, topS, List.foldl_append]; rfl
theorem topM_take {l : List S} {k : Nat} (h : k < l.length) : topM (l.take (k + 1)) = if markLt (topM (l.take k)) l[k] then l[k] else topM (l.take k) := by
  rw [List.take_succ_eq_append_getElem h, topM, List.foldl_append]; rfl
abbrev stC (s : S) : Array Value := #[.int .u32 s.n, .int .u8 s.b, .int .u8 s.l]
abbrev mkC (s : S) : Array Value := #[.int .u32 s.n, .int .u8 s.b]
/-- The slice value leads to the stamps. -/
def StsAt (w : World) (v : Value) (l : List S) : Prop :=
  (v = .slice none 0 0 ∧ l = []) ∨ ∃ b off cap, v = .slice (some ⟨b, off, none⟩) l.length cap ∧
    ∀ i (h : i < l.length), (w.cell? ⟨b, off + i * 3, none⟩ = some (.int .u32 l[i].n) ∧ w.cell? ⟨b, off + i * 3 + 1, none⟩ = some (.int .u8 l[i].b) ∧ w.cell? ⟨b, off + i * 3 + 2, none⟩ = some (.int .u8 l[i].l))
set_option maxHeartbeats 400000 in
theorem great_none (w : World) : Calls Try.prog 12 #[.slice none 0 0] w fun e w' => e = .returned (st ⟨0, 0, 0⟩) ∧ Below w.heap.size w w' := by
  go_enter Try.func12, Try.ntmps12
  go_wp2
  go_loop [8] (fun i => i = .int .i64 0) (fun _ => 0)
  case atStart => rfl
  case round =>
    obtain rfl := hrel
    go_wp2
    exact bodyPost_ret (by simp [results, Try.results12, go_sem]; rfl) rfl ⟨by simp, by go_grown⟩
set_option maxHeartbeats 1000000 in
theorem great_some (b off cap : Nat) (l : List S) (w : World) (hl : l.length ≤ 20)
    (hc : ∀ i (h : i < l.length), (w.cell? ⟨b, off + i * 3, none⟩ = some (.int .u32 l[i].n) ∧ w.cell? ⟨b, off + i * 3 + 1, none⟩ = some (.int .u8 l[i].b) ∧ w.cell? ⟨b, off + i * 3 + 2, none⟩ = some (.int .u8 l[i].l))) :
    Calls Try.prog 12 #[.slice (some ⟨b, off, none⟩) l.length cap] w fun e w' => e = .returned (st (topS l)) ∧ Below w.heap.size w w' := by
  have HC := Lib.hid hc
  obtain ⟨n, hn⟩ : ∃ n, n = l.length := ⟨_, rfl⟩
  rw [← hn] at hl ⊢
  have HN := Lib.hid hn
  clear hc hn
  go_enter Try.func12, Try.ntmps12
  go_wp2
  go_loopw [8] (fun i wr => ∃ k : Nat, k ≤ n ∧ i = .int .i64 k ∧ Blk wr (w.heap.size + 1) (stC (topS (l.take k))) 30 ∧ Blk wr w.heap.size (stC ⟨0, 0, 0⟩) 30 ∧ Below w.heap.size w wr) (fun i _ => (n - (intOf i).toNat))
  case atStart => exact ⟨0, by omega, rfl, by have := heap_alloc_new (w.alloc (.cells (stC ⟨0, 0, 0⟩) 30)) (.cells (stC ⟨0, 0, 0⟩) 30); rw [World.size_alloc] at this; exact this, Blk.alloc (heap_alloc_new _ _) _, by go_grown⟩
  case round =>
    obtain ⟨k, hk, rfl, hT, hR, hB⟩ := hrel
    have HT := Lib.hid hT
    have HR := Lib.hid hR
    have HB := Lib.hid hB
    have HTK := fun h => topS_take (l := l) (k := k) h
    generalize htop : topS (l.take k) = t at *
    obtain ⟨tn, tb, tl⟩ := t
    have t0 := HT.out.cell 0
    have t1 := HT.out.cell 1
    have t2 := HT.out.cell 2
    have f0 := HT.out.frozen 0
    have f1 := HT.out.frozen 1
    have f2 := HT.out.frozen 2
    have r0 := HR.out.cell 0
    have r1 := HR.out.cell 1
    have r2 := HR.out.cell 2
    have g0 := HR.out.frozen 0
    have g1 := HR.out.frozen 1
    have g2 := HR.out.frozen 2
    simp [stC] at t0 t1 t2 r0 r1 r2
    have hlt1 : w.heap.size + 1 < wr.heap.size := HT.out.lt
    have HTK' := Lib.hid HTK
    clear hT hR hB HTK
    by_cases hlt : k < n
    · obtain ⟨c0, c1, c2⟩ := HC.out k (by rw [← HN.out]; exact hlt)
      have hstep := HTK'.out (by rw [← HN.out]; exact hlt)
      generalize l[k]'(by rw [← HN.out]; exact hlt) = p at *
      obtain ⟨pn, pb, pl⟩ := p
      have hb0 := World.block_lt_of_cell? _ _ c0
      simp only at hb0
      have q0 := (HB.out.cell (p := ⟨b, off + k * 3, none⟩) hb0).trans c0
      have q1 := (HB.out.cell (p := ⟨b, off + k * 3 + 1, none⟩) hb0).trans c1
      have q2 := (HB.out.cell (p := ⟨b, off + k * 3 + 2, none⟩) hb0).trans c2
      clear c0 c1 c2 hb0
      have HST := Lib.hid hstep
      clear hstep
      cases hless : stLt ⟨tn, tb, tl⟩ ⟨pn, pb, pl⟩ with
      | true =>
        go_wp2_with (go_at_call 8; refine (less_any ⟨tn, tb, tl⟩ ⟨pn, pb, pl⟩ _).mono ?_; rintro e w1 ⟨rfl, hB1⟩; rw [hless]; have HB1 := Lib.hid hB1; have HT1 : Hid (Blk w1 (w.heap.size + 1) (stC ⟨tn, tb, tl⟩) 30) := (HT.out.alloc _).on hB1; have HR1 : Hid (Blk w1 w.heap.size (stC ⟨0, 0, 0⟩) 30) := (HR.out.alloc _).on hB1; have HP1 : Hid (Blk w1 wr.heap.size (stC ⟨pn, pb, pl⟩) 30) := Blk.on (heap_alloc_new _ _) hB1; have p0 := HP1.out.cell 0; have p1 := HP1.out.cell 1; have p2 := HP1.out.cell 2; simp [stC] at p0 p1 p2; have z0 := HT1.out.frozen 0; have z1 := HT1.out.frozen 1; have z2 := HT1.out.frozen 2; have y0 := HT1.out.cell 0; have y1 := HT1.out.cell 1; have y2 := HT1.out.cell 2; simp [stC] at y0 y1 y2; clear hB1)
        go_roundw
        case rel =>
          refine ⟨k + 1, by omega, by go_num, ?_, ?_, ?_⟩
          · rw [HST.out, if_pos hless]
            exact Blk.set (Blk.set (Blk.set HT1.out 0 _ _ rfl) 1 _ _ rfl) 2 _ _ rfl
          · exact ((HR1.out.set_other 0 _ (by omega)).set_other 1 _ (by omega)).set_other 2 _ (by omega)
          · have hB := m_below_on (w := w) (by have := HB.out; go_grown) HB1.out
            go_grown
        case measure => simp [intOf]; omega
      | false =>
        go_wp2_with (go_at_call 8; refine (less_any ⟨tn, tb, tl⟩ ⟨pn, pb, pl⟩ _).mono ?_; rintro e w1 ⟨rfl, hB1⟩; rw [hless]; have HB1 := Lib.hid hB1; have HT1 : Hid (Blk w1 (w.heap.size + 1) (stC ⟨tn, tb, tl⟩) 30) := (HT.out.alloc _).on hB1; have HR1 : Hid (Blk w1 w.heap.size (stC ⟨0, 0, 0⟩) 30) := (HR.out.alloc _).on hB1; clear hB1)
        go_roundw
        case rel => exact ⟨k + 1, by omega, by go_num, by rw [HST.out, hless]; exact HT1.out, HR1.out, m_below_on (by have := HB.out; go_grown) HB1.out⟩
        case measure => simp [intOf]; omega
    · obtain rfl : k = n := by omega
      have HE : Hid (topS l = ⟨tn, tb, tl⟩) := by rw [HN.out, List.take_length] at htop; exact htop
      go_wp2
      have HX := Blk.set (Blk.set (Blk.set HR.out 0 (.int .u32 tn) _ rfl) 1 (.int .u8 tb) _ rfl) 2 (.int .u8 tl) _ rfl
      have x0 := HX.cell 0
      have x1 := HX.cell 1
      have x2 := HX.cell 2
      simp at x0 x1 x2
      refine bodyPost_ret (v := st ⟨tn, tb, tl⟩) (by simp [results, Try.results12, go_sem, x0, x1, x2]) rfl ⟨by rw [HE.out], ?_⟩
      have := HB.out
      go_grown
theorem great_any (v : Value) (l : List S) (w : World) (hl : l.length ≤ 20) (h : StsAt w v l) : Calls Try.prog 12 #[v] w fun e w' => e = .returned (st (topS l)) ∧ Below w.heap.size w w' := by
  rcases h with ⟨rfl, rfl⟩ | ⟨b, off, cap, rfl, hc⟩
  · exact great_none w
  · exact great_some b off cap l w hl hc
/-- The slice value leads to the ballots. -/
def MksAt (w : World) (v : Value) (l : List S) : Prop :=
  (v = .slice none 0 0 ∧ l = []) ∨ ∃ b off cap, v = .slice (some ⟨b, off, none⟩) l.length cap ∧
    ∀ i (h : i < l.length), (w.cell? ⟨b, off + i * 2, none⟩ = some (.int .u32 l[i].n) ∧ w.cell? ⟨b, off + i * 2 + 1, none⟩ = some (.int .u8 l[i].b))
set_option maxHeartbeats 400000 in
theorem high_none (w : World) : Calls Try.prog 14 #[.slice none 0 0] w fun e w' => e = .returned (mk ⟨0, 0, 0⟩) ∧ Below w.heap.size w w' := by
  go_enter Try.func14, Try.ntmps14
  go_wp2
  go_loop [8] (fun i => i = .int .i64 0) (fun _ => 0)
  case atStart => rfl
  case round =>
    obtain rfl := hrel
    go_wp2
    exact bodyPost_ret (by simp [results, Try.results14, go_sem]; rfl) rfl ⟨by simp, by go_grown⟩
set_option maxHeartbeats 1000000 in
theorem high_some (b off cap : Nat) (l : List S) (w : World) (hl : l.length ≤ 20)
    (hc : ∀ i (h : i < l.length), (w.cell? ⟨b, off + i * 2, none⟩ = some (.int .u32 l[i].n) ∧ w.cell? ⟨b, off + i * 2 + 1, none⟩ = some (.int .u8 l[i].b))) :
    Calls Try.prog 14 #[.slice (some ⟨b, off, none⟩) l.length cap] w fun e w' => e = .returned (mk (topM l)) ∧ Below w.heap.size w w' := by
  have HC := Lib.hid hc
  obtain ⟨n, hn⟩ : ∃ n, n = l.length := ⟨_, rfl⟩
  rw [← hn] at hl ⊢
  have HN := Lib.hid hn
  clear hc hn
  go_enter Try.func14, Try.ntmps14
  go_wp2
  go_loopw [8] (fun i wr => ∃ k : Nat, k ≤ n ∧ i = .int .i64 k ∧ Blk wr (w.heap.size + 1) (mkC (topM (l.take k))) 40 ∧ Blk wr w.heap.size (mkC ⟨0, 0, 0⟩) 40 ∧ Below w.heap.size w wr) (fun i _ => (n - (intOf i).toNat))
  case atStart => exact ⟨0, by omega, rfl, by have := heap_alloc_new (w.alloc (.cells (mkC ⟨0, 0, 0⟩) 40)) (.cells (mkC ⟨0, 0, 0⟩) 40); rw [World.size_alloc] at this; exact this, Blk.alloc (heap_alloc_new _ _) _, by go_grown⟩
  case round =>
    obtain ⟨k, hk, rfl, hT, hR, hB⟩ := hrel
    have HT := Lib.hid hT
    have HR := Lib.hid hR
    have HB := Lib.hid hB
    have HTK := fun h => topM_take (l := l) (k := k) h
    generalize htop : topM (l.take k) = t at *
    obtain ⟨tn, tb, tl⟩ := t
    have t0 := HT.out.cell 0
    have t1 := HT.out.cell 1
    have f0 := HT.out.frozen 0
    have f1 := HT.out.frozen 1
    have r0 := HR.out.cell 0
    have r1 := HR.out.cell 1
    have g0 := HR.out.frozen 0
    have g1 := HR.out.frozen 1
    simp [mkC] at t0 t1 r0 r1
    have hlt1 : w.heap.size + 1 < wr.heap.size := HT.out.lt
    have HTK' := Lib.hid HTK
    clear hT hR hB HTK
    by_cases hlt : k < n
    · obtain ⟨c0, c1⟩ := HC.out k (by rw [← HN.out]; exact hlt)
      have hstep := HTK'.out (by rw [← HN.out]; exact hlt)
      generalize l[k]'(by rw [← HN.out]; exact hlt) = p at *
      obtain ⟨pn, pb, pl⟩ := p
      have hb0 := World.block_lt_of_cell? _ _ c0
      simp only at hb0
      have q0 := (HB.out.cell (p := ⟨b, off + k * 2, none⟩) hb0).trans c0
      have q1 := (HB.out.cell (p := ⟨b, off + k * 2 + 1, none⟩) hb0).trans c1
      clear c0 c1 hb0
      have HST := Lib.hid hstep
      clear hstep
      cases hless : markLt ⟨tn, tb, tl⟩ ⟨pn, pb, pl⟩ with
      | true =>
        go_wp2_with (go_at_call 10; refine (below_any ⟨tn, tb, tl⟩ ⟨pn, pb, pl⟩ _).mono ?_; rintro e w1 ⟨rfl, hB1⟩; rw [hless]; have HB1 := Lib.hid hB1; have HT1 : Hid (Blk w1 (w.heap.size + 1) (mkC ⟨tn, tb, tl⟩) 40) := (HT.out.alloc _).on hB1; have HR1 : Hid (Blk w1 w.heap.size (mkC ⟨0, 0, 0⟩) 40) := (HR.out.alloc _).on hB1; have HP1 : Hid (Blk w1 wr.heap.size (mkC ⟨pn, pb, pl⟩) 40) := Blk.on (heap_alloc_new _ _) hB1; have p0 := HP1.out.cell 0; have p1 := HP1.out.cell 1; simp [mkC] at p0 p1; have z0 := HT1.out.frozen 0; have z1 := HT1.out.frozen 1; have y0 := HT1.out.cell 0; have y1 := HT1.out.cell 1; simp [mkC] at y0 y1; clear hB1)
        go_roundw
        case rel =>
          refine ⟨k + 1, by omega, by go_num, ?_, ?_, ?_⟩
          · rw [HST.out, if_pos hless]
            exact Blk.set (Blk.set HT1.out 0 _ _ rfl) 1 _ _ rfl
          · exact (HR1.out.set_other 0 _ (by omega)).set_other 1 _ (by omega)
          · have hB := m_below_on (w := w) (by have := HB.out; go_grown) HB1.out
            go_grown
        case measure => simp [intOf]; omega
      | false =>
        go_wp2_with (go_at_call 10; refine (below_any ⟨tn, tb, tl⟩ ⟨pn, pb, pl⟩ _).mono ?_; rintro e w1 ⟨rfl, hB1⟩; rw [hless]; have HB1 := Lib.hid hB1; have HT1 : Hid (Blk w1 (w.heap.size + 1) (mkC ⟨tn, tb, tl⟩) 40) := (HT.out.alloc _).on hB1; have HR1 : Hid (Blk w1 w.heap.size (mkC ⟨0, 0, 0⟩) 40) := (HR.out.alloc _).on hB1; clear hB1)
        go_roundw
        case rel => exact ⟨k + 1, by omega, by go_num, by rw [HST.out, hless]; exact HT1.out, HR1.out, m_below_on (by have := HB.out; go_grown) HB1.out⟩
        case measure => simp [intOf]; omega
    · obtain rfl : k = n := by omega
      have HE : Hid (topM l = ⟨tn, tb, tl⟩) := by rw [HN.out, List.take_length] at htop; exact htop
      go_wp2
      have HX := Blk.set (Blk.set HR.out 0 (.int .u32 tn) _ rfl) 1 (.int .u8 tb) _ rfl
      have x0 := HX.cell 0
      have x1 := HX.cell 1
      simp at x0 x1
      refine bodyPost_ret (v := mk ⟨tn, tb, tl⟩) (by simp [results, Try.results14, go_sem, x0, x1]) rfl ⟨by rw [HE.out], ?_⟩
      have := HB.out
      go_grown
theorem high_any (v : Value) (l : List S) (w : World) (hl : l.length ≤ 20) (h : MksAt w v l) : Calls Try.prog 14 #[v] w fun e w' => e = .returned (mk (topM l)) ∧ Below w.heap.size w w' := by
  rcases h with ⟨rfl, rfl⟩ | ⟨b, off, cap, rfl, hc⟩
  · exact high_none w
  · exact high_some b off cap l w hl hc
theorem topS_fine {l : List S} (h : ∀ s ∈ l, s.fine) : (topS l).fine := by
  have : ∀ (l : List S) (t : S), t.fine → (∀ s ∈ l, s.fine) → (l.foldl (fun t s => if stLt t s then s else t) t).fine := by
    intro l
    induction l with
    | nil => intro t ht _; exact ht
    | cons a l ih =>
      intro t ht h
      refine ih _ ?_ (fun s hs => h s (List.mem_cons_of_mem _ hs))
      show (if stLt t a then a else t).fine
      split
      · exact h a (List.mem_cons_self ..)
      · exact ht
  exact this l _ ⟨by decide, by decide, by decide⟩ h
set_option maxHeartbeats 400000 in
theorem refGreat_none (w : World) : Calls Try.prog 13 #[.slice none 0 0] w fun e w' => e = .returned (st ⟨0, 0, 0⟩) ∧ Below w.heap.size w w' := by
  go_enter Try.func13, Try.ntmps13
  go_wp2
  go_loop [4] (fun i => i = .int .i64 0) (fun _ => 0)
  case atStart => rfl
  case round =>
    obtain rfl := hrel
    go_wp2
    exact bodyPost_ret (by simp [results, Try.results13, go_sem]; rfl) rfl ⟨by simp, by go_grown⟩
set_option maxHeartbeats 1000000 in
theorem refGreat_some (b off cap : Nat) (l : List S) (w : World) (hl : l.length ≤ 20) (hf : ∀ s ∈ l, s.fine)
    (hc : ∀ i (h : i < l.length), (w.cell? ⟨b, off + i * 3, none⟩ = some (.int .u32 l[i].n) ∧ w.cell? ⟨b, off + i * 3 + 1, none⟩ = some (.int .u8 l[i].b) ∧ w.cell? ⟨b, off + i * 3 + 2, none⟩ = some (.int .u8 l[i].l))) :
    Calls Try.prog 13 #[.slice (some ⟨b, off, none⟩) l.length cap] w fun e w' => e = .returned (st (topS l)) ∧ Below w.heap.size w w' := by
  have HC := Lib.hid hc
  have HF := Lib.hid hf
  have HFT : Hid (∀ k, (topS (l.take k)).fine) := fun k => topS_fine (fun s hs => hf s (List.mem_of_mem_take hs))
  obtain ⟨n, hn⟩ : ∃ n, n = l.length := ⟨_, rfl⟩
  rw [← hn] at hl ⊢
  have HN := Lib.hid hn
  clear hc hn hf
  go_enter Try.func13, Try.ntmps13
  go_wp2
  go_loopw [4] (fun i wr => ∃ k : Nat, k ≤ n ∧ i = .int .i64 k ∧ Blk wr (w.heap.size + 1) (stC (topS (l.take k))) 32 ∧ Blk wr w.heap.size (stC ⟨0, 0, 0⟩) 32 ∧ Below w.heap.size w wr) (fun i _ => (n - (intOf i).toNat))
  case atStart => exact ⟨0, by omega, rfl, by have := heap_alloc_new (w.alloc (.cells (stC ⟨0, 0, 0⟩) 32)) (.cells (stC ⟨0, 0, 0⟩) 32); rw [World.size_alloc] at this; exact this, Blk.alloc (heap_alloc_new _ _) _, by go_grown⟩
  case round =>
    obtain ⟨k, hk, rfl, hT, hR, hB⟩ := hrel
    have HT := Lib.hid hT
    have HR := Lib.hid hR
    have HB := Lib.hid hB
    have HTK := fun h => topS_take (l := l) (k := k) h
    have hft := HFT.out k
    generalize htop : topS (l.take k) = t at *
    have HFK := Lib.hid hft
    clear hft
    obtain ⟨tn, tb, tl⟩ := t
    have t0 := HT.out.cell 0
    have t1 := HT.out.cell 1
    have t2 := HT.out.cell 2
    have f0 := HT.out.frozen 0
    have f1 := HT.out.frozen 1
    have f2 := HT.out.frozen 2
    have r0 := HR.out.cell 0
    have r1 := HR.out.cell 1
    have r2 := HR.out.cell 2
    have g0 := HR.out.frozen 0
    have g1 := HR.out.frozen 1
    have g2 := HR.out.frozen 2
    simp [stC] at t0 t1 t2 r0 r1 r2
    have hlt1 : w.heap.size + 1 < wr.heap.size := HT.out.lt
    have HTK' := Lib.hid HTK
    clear hT hR hB HTK
    by_cases hlt : k < n
    · obtain ⟨c0, c1, c2⟩ := HC.out k (by rw [← HN.out]; exact hlt)
      have hstep := HTK'.out (by rw [← HN.out]; exact hlt)
      have hfp := HF.out (l[k]'(by rw [← HN.out]; exact hlt)) (List.getElem_mem _)
      generalize l[k]'(by rw [← HN.out]; exact hlt) = p at *
      have HFP := Lib.hid hfp
      clear hfp
      obtain ⟨pn, pb, pl⟩ := p
      have hb0 := World.block_lt_of_cell? _ _ c0
      simp only at hb0
      have q0 := (HB.out.cell (p := ⟨b, off + k * 3, none⟩) hb0).trans c0
      have q1 := (HB.out.cell (p := ⟨b, off + k * 3 + 1, none⟩) hb0).trans c1
      have q2 := (HB.out.cell (p := ⟨b, off + k * 3 + 2, none⟩) hb0).trans c2
      clear c0 c1 c2 hb0
      have HST := Lib.hid hstep
      clear hstep
      cases hless : stLt ⟨tn, tb, tl⟩ ⟨pn, pb, pl⟩ with
      | true =>
        go_wp2
        go_region_with (go_at_call 9; refine (refLess_any ⟨tn, tb, tl⟩ ⟨pn, pb, pl⟩ _ HFK.out HFP.out).mono ?_; rintro e w1 ⟨rfl, hB0⟩; rw [hless]; have hB1 : Below wr.heap.size wr w1 := (Below.drew (Below.refl _ _)).trans hB0; clear hB0; have HB1 := Lib.hid hB1; have HT1 : Hid (Blk w1 (w.heap.size + 1) (stC ⟨tn, tb, tl⟩) 32) := Blk.on HT.out hB1; have HR1 : Hid (Blk w1 w.heap.size (stC ⟨0, 0, 0⟩) 32) := Blk.on HR.out hB1; have z0 := HT1.out.frozen 0; have z1 := HT1.out.frozen 1; have z2 := HT1.out.frozen 2; have y0 := HT1.out.cell 0; have y1 := HT1.out.cell 1; have y2 := HT1.out.cell 2; simp [stC] at y0 y1 y2; have p0 := (hB1.cell (p := ⟨b, off + k * 3, none⟩) (World.block_lt_of_cell? _ _ q0)).trans q0; have p1 := (hB1.cell (p := ⟨b, off + k * 3 + 1, none⟩) (World.block_lt_of_cell? _ _ q1)).trans q1; have p2 := (hB1.cell (p := ⟨b, off + k * 3 + 2, none⟩) (World.block_lt_of_cell? _ _ q2)).trans q2; clear hB1)
        all_goals
          go_wp2
          go_roundw
          case rel =>
            refine ⟨k + 1, by omega, by go_num, ?_, ?_, ?_⟩
            · rw [HST.out, if_pos hless]
              exact Blk.set (Blk.set (Blk.set HT1.out 0 _ _ rfl) 1 _ _ rfl) 2 _ _ rfl
            · exact ((HR1.out.set_other 0 _ (by omega)).set_other 1 _ (by omega)).set_other 2 _ (by omega)
            · have hB := m_below_on (w := w) (by have := HB.out; go_grown) HB1.out
              go_grown
          case measure => simp [intOf]; omega
      | false =>
        go_wp2
        go_region_with (go_at_call 9; refine (refLess_any ⟨tn, tb, tl⟩ ⟨pn, pb, pl⟩ _ HFK.out HFP.out).mono ?_; rintro e w1 ⟨rfl, hB0⟩; rw [hless]; have hB1 : Below wr.heap.size wr w1 := (Below.drew (Below.refl _ _)).trans hB0; clear hB0; have HB1 := Lib.hid hB1; have HT1 : Hid (Blk w1 (w.heap.size + 1) (stC ⟨tn, tb, tl⟩) 32) := Blk.on HT.out hB1; have HR1 : Hid (Blk w1 w.heap.size (stC ⟨0, 0, 0⟩) 32) := Blk.on HR.out hB1; clear hB1)
        all_goals
          go_wp2
          go_roundw
          case rel => exact ⟨k + 1, by omega, by go_num, by rw [HST.out, hless]; exact HT1.out, HR1.out, m_below_on HB.out HB1.out⟩
          case measure => simp [intOf]; omega
    · obtain rfl : k = n := by omega
      have HE : Hid (topS l = ⟨tn, tb, tl⟩) := by rw [HN.out, List.take_length] at htop; exact htop
      go_wp2
      have HX := Blk.set (Blk.set (Blk.set HR.out 0 (.int .u32 tn) _ rfl) 1 (.int .u8 tb) _ rfl) 2 (.int .u8 tl) _ rfl
      have x0 := HX.cell 0
      have x1 := HX.cell 1
      have x2 := HX.cell 2
      simp at x0 x1 x2
      refine bodyPost_ret (v := st ⟨tn, tb, tl⟩) (by simp [results, Try.results13, go_sem, x0, x1, x2]) rfl ⟨by rw [HE.out], ?_⟩
      have := HB.out
      go_grown
theorem refGreat_any (v : Value) (l : List S) (w : World) (hl : l.length ≤ 20) (hf : ∀ s ∈ l, s.fine) (h : StsAt w v l) : Calls Try.prog 13 #[v] w fun e w' => e = .returned (st (topS l)) ∧ Below w.heap.size w w' := by
  rcases h with ⟨rfl, rfl⟩ | ⟨b, off, cap, rfl, hc⟩
  · exact refGreat_none w
  · exact refGreat_some b off cap l w hl hf hc
end Go.Proofs.Ytegjgdiollafkaa
