/-
  The law ViewPlays: what its walk leans on.
-/
import Derived.Test.YtkgahhfemlebmaaRefH
import Derived.Test.YtkgahhfemlebmaaRefE
import Derived.Test.YtkgahhfemlebmaaRefC
import Derived.Test.YtkgahhfemlebmaaRefB
import Derived.Test.YtkgahhfemlebmaaViewS
import Derived.Test.YtkgahhfemlebmaaViewJ
import Derived.Test.YtkgahhfemlebmaaOpenC
namespace Go.Proofs.Ytkgahhfemlebmaa
open Go.RowKit Go.Instr

theorem asks_any (e : Nat) (s t : Value) (lv : Lv) (l : List Mem) (node life : Nat) (w : World) (hl : l.length ≤ 40) (hs : MemsAt w s l) (ht : MemsAt w t l) (hnd : (l.map (·.n)).Nodup) :
    Calls Try.prog 11 #[.agg (vC e s lv), .agg (vC e t lv), .int .u8 node, .int .u8 life] w fun en w' => en = .returned (.bool true) ∧ Below w.heap.size w w' := by
  rcases idx_cases (isNode node) l with hr | ⟨i, hr, hi⟩
  · exact asks_no e s t lv l node life w hl hs ht hr
  · obtain ⟨_, hp⟩ := idxOf_hit hr
    exact asks_yes e s t lv l node life w hl hs ht i hnd hi hr (by simpa [isNode] using hp)
theorem epoch32_apply {v : Vw} {c : Cmd} (h : v.e < 4294967296) : (v.apply c).1.e < 4294967296 := by
  unfold Vw.apply
  repeat' split
  all_goals simp only
  all_goals first
    | exact h
    | (rename_i h2; have := h2.2; omega)
    | (rename_i h2; have := of_decide_eq_true h2.2; omega)
theorem alike_is (s t : Value) (l k : List Mem) (r : Bool) (w : World) (hl : l.length ≤ 40) (hk : k.length ≤ 40) (hs : MemsAt w s l) (ht : MemsAt w t k) (hr : decide (l = k) = r) :
    Calls Try.prog 13 #[s, t] w fun e w' => e = .returned (.bool r) ∧ Below w.heap.size w w' := by
  subst hr
  exact alike_any s t l k w hl hk hs ht
theorem Same_ia (e e2 : Nat) (s t : Value) (lv lv2 : Lv) (l k : List Mem) (r : Bool) (w : World) (hl : l.length ≤ 40) (hk : k.length ≤ 40) (hs : MemsAt w s l) (ht : MemsAt w t k) (hr : sameB e lv l e2 lv2 k = r) :
    Calls Try.prog 12 #[.agg (vC e s lv), .agg (vC e2 t lv2)] w fun en w' => en = .returned (.bool r) ∧ Below w.heap.size w w' := by
  subst hr
  exact Same_any e e2 s t lv lv2 l k w hl hk hs ht
theorem refApply_is (s : Value) (e : Nat) (lv : Lv) (l : List Mem) (k n cl ce cr : Nat) (r : Vw × Bool) (w : World) (hg : Good ⟨e, lv, l⟩) (hs : MemsAt w s l) (he : e < 4294967296) (hr : Vw.apply ⟨e, lv, l⟩ ⟨k, n, cl, ce, cr⟩ = r) :
    Calls Try.prog 10 #[.agg (vC e s lv), .agg #[.int .u8 k, .int .u8 n, .int .u8 cl, .int .u32 ce]] w (AppP w r) := by
  subst hr
  exact refApply_any s ⟨e, lv, l⟩ k n cl ce cr w hg hs he
/-- What stands while the reference's first view is made: block M. -/
def PlayL1 (w3 : World) (M n : Nat) (i : Value) (wr : World) : Prop :=
  ∃ (k : Nat) (s : Value), k ≤ n ∧ i = .int .i64 k ∧ Blk wr M (vC 1 s (livesN k)) 34 ∧ wr.ownsRow w3.heap.size 36 3 s k (mRow (firstN k)) ∧ KB w3.heap.size M w3 wr
/-- What stands at the head of the loop over the commands. -/
def PlayL2 (w : World) (V M len : Nat) (i : Value) (wr : World) : Prop :=
  ∃ (k : Nat) (v : Vw) (a a' : Option Addr) (c c' : Nat), i = .int .i64 k ∧ k ≤ len ∧ k ≤ 30 ∧ v.e < 4294967296 ∧ Good v ∧ Two w V M v.e (.slice a v.l.length c) (.slice a' v.l.length c') v.lv v.l wr
theorem Two.epoch {w wx : World} {V M e e0 n1 c1 n2 c2 : Nat} {a1 a2 : Option Addr} {lv : Lv} {l : List Mem} (h : Two w V M e (.slice a1 n1 c1) (.slice a2 n2 c2) lv l wx) (hVM : V ≠ M) (h1 : w.heap.size ≤ V) (h2 : w.heap.size ≤ M) :
    Two w V M e0 (.slice a1 n1 c1) (.slice a2 n2 c2) lv l ((wx.setCell ⟨V, 0, none⟩ (.int .u32 e0)).setCell ⟨M, 0, none⟩ (.int .u32 e0)) := by
  have a := Blk.set h.a 0 (.int .u32 e0) (vC e0 (.slice a1 n1 c1) lv) rfl
  have b := Blk.set_other (C := V) h.b 0 (.int .u32 e0) (Ne.symm hVM)
  have s1 := h.s.but (w' := wx.setCell ⟨V, 0, none⟩ (.int .u32 e0)) h.a (by simp) (fun k _ hk => Below.heap_setCell _ _ _ k hk)
  have t1 := h.t.but (w' := wx.setCell ⟨V, 0, none⟩ (.int .u32 e0)) h.a (by simp) (fun k _ hk => Below.heap_setCell _ _ _ k hk)
  refine ⟨a.set_other 0 _ hVM, Blk.set b 0 _ (vC e0 (.slice a2 n2 c2) lv) rfl, s1.but34 b (by simp) (fun k _ hk => Below.heap_setCell _ _ _ k hk), t1.but34 b (by simp) (fun k _ hk => Below.heap_setCell _ _ _ k hk), ?_⟩
  have := h.w
  go_grown
/-- Both views are written anew. -/
theorem Two.fill {w wx w1 w2 : World} {V M e n1 c1 n2 c2 : Nat} {a1 a2 : Option Addr} {lv : Lv} {l : List Mem} (h : Two w V M e (.slice a1 n1 c1) (.slice a2 n2 c2) lv l wx) (hVM : V ≠ M) (h1 : w.heap.size ≤ V) (h2 : w.heap.size ≤ M)
    (e' m1 d1 m2 d2 : Nat) (b1 b2 : Option Addr) (lv' : Lv) (l' : List Mem) (hs : MemsAt wx (.slice b1 m1 d1) l') (ht : MemsAt wx (.slice b2 m2 d2) l')
    (hw1 : w1 = ((((((((((wx).setCell ⟨V, 0, none⟩ (.int .u32 e')).setCell ⟨V, 1, none⟩ (.slice b1 m1 d1)).setCell ⟨V, 2, none⟩ (.int .u8 lv'.a)).setCell ⟨V, 3, none⟩ (.int .u8 lv'.b)).setCell ⟨V, 4, none⟩ (.int .u8 lv'.c)).setCell ⟨V, 5, none⟩ (.int .u8 lv'.d)).setCell ⟨V, 6, none⟩ (.int .u8 lv'.e)).setCell ⟨V, 7, none⟩ (.int .u8 lv'.f)).setCell ⟨V, 8, none⟩ (.int .u8 lv'.g)).setCell ⟨V, 9, none⟩ (.int .u8 lv'.h)) (hw2 : w2 = ((((((((((w1).setCell ⟨M, 0, none⟩ (.int .u32 e')).setCell ⟨M, 1, none⟩ (.slice b2 m2 d2)).setCell ⟨M, 2, none⟩ (.int .u8 lv'.a)).setCell ⟨M, 3, none⟩ (.int .u8 lv'.b)).setCell ⟨M, 4, none⟩ (.int .u8 lv'.c)).setCell ⟨M, 5, none⟩ (.int .u8 lv'.d)).setCell ⟨M, 6, none⟩ (.int .u8 lv'.e)).setCell ⟨M, 7, none⟩ (.int .u8 lv'.f)).setCell ⟨M, 8, none⟩ (.int .u8 lv'.g)).setCell ⟨M, 9, none⟩ (.int .u8 lv'.h)) : Two w V M e' (.slice b1 m1 d1) (.slice b2 m2 d2) lv' l' w2 := by
  obtain ⟨hF, hFB, hFs, hFo⟩ := fill_view h.a e' b1 lv' w1 hw1
  have b := (hFo M (Ne.symm hVM)).trans h.b
  obtain ⟨hG, hGB, hGs, hGo⟩ := fill34 b e' b2 lv' w2 hw2
  exact ⟨(hGo V hVM).trans hF, hG, (hs.but h.a (by omega) (fun k _ hk => hFo k hk)).but34 b (by omega) (fun k _ hk => hGo k hk), (ht.but h.a (by omega) (fun k _ hk => hFo k hk)).but34 b (by omega) (fun k _ hk => hGo k hk), (h.w.trans (hFB.mono h1)).trans (hGB.mono h2)⟩
theorem mRow_firstN (k : Nat) : mRow (firstN (k + 1)) = mRow (firstN k) ++ [.int .u8 (k + 1 : Nat), .int .u8 1, .bool true] := by
  rw [firstN_succ, mRow_snoc]
  rfl
end Go.Proofs.Ytkgahhfemlebmaa
