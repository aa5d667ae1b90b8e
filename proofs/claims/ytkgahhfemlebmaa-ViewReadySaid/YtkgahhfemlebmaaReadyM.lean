/-
  What a command does to a view, case by case, and the lives that members had: mathematics, without a walk.
-/
import Derived.Test.YtkgahhfemlebmaaViewM
namespace Go.Proofs.Ytkgahhfemlebmaa
open Go.RowKit Go.Instr

/-- What a command does to a view. -/
theorem apply_cases (v : Vw) (c : Cmd) :
    ((v.apply c).2 = true ∧ (v.apply c).1.l.length = v.l.length + 1 ∧ (v.apply c).1.e = v.e + 1 ∧ 1 ≤ c.n ∧ c.n ≤ 8 ∧ v.lv.get (c.n - 1) < c.l ∧ (v.apply c).1.l = v.l ++ [⟨c.n, c.l, false⟩] ∧ (v.apply c).1.lv = v.lv.set (c.n - 1) c.l) ∨
    ((v.apply c).2 = true ∧ (v.apply c).1.l.length + 1 = v.l.length ∧ (v.apply c).1.e = v.e + 1 ∧ (v.apply c).1.lv = v.lv) ∨
    ((v.apply c).1.l.length = v.l.length ∧ (v.apply c).1.e = v.e ∧ (v.apply c).1.lv = v.lv ∧ ((v.apply c).2 = true ∨ (v.apply c).1.l = v.l)) := by
  unfold Vw.apply
  split
  · exact .inr (.inr ⟨rfl, rfl, rfl, .inr rfl⟩)
  split
  · split
    · rename_i hf
      obtain ⟨h1, h2, h3, h4, h5, h6⟩ := decide_eq_true_iff.1 hf.1
      exact .inl ⟨rfl, by simp, rfl, h1, h2, h4, rfl, rfl⟩
    · exact .inr (.inr ⟨rfl, rfl, rfl, .inr rfl⟩)
  split
  · split
    · rename_i hf
      refine .inr (.inl ⟨rfl, ?_, rfl, rfl⟩)
      have hb := idxOf_bd (isBoth c.n c.l) v.l
      have hi : (idxOf (isBoth c.n c.l) v.l).toNat < v.l.length := by omega
      simp only [List.length_eraseIdx, if_pos hi]
      omega
    · exact .inr (.inr ⟨rfl, rfl, rfl, .inr rfl⟩)
  split
  · split
    · exact .inr (.inr ⟨by simp, rfl, rfl, .inl rfl⟩)
    · exact .inr (.inr ⟨rfl, rfl, rfl, .inr rfl⟩)
  split
  · exact .inr (.inr ⟨rfl, rfl, rfl, .inr rfl⟩)
  · exact .inr (.inr ⟨rfl, rfl, rfl, .inr rfl⟩)
/-- Nine bytes. -/
abbrev gC (g : Nat → Nat) : Array Value := #[.int .u8 (g 0), .int .u8 (g 1), .int .u8 (g 2), .int .u8 (g 3), .int .u8 (g 4), .int .u8 (g 5), .int .u8 (g 6), .int .u8 (g 7), .int .u8 (g 8)]
def upd (g : Nat → Nat) (k x : Nat) (j : Nat) : Nat := if j = k then x else g j
theorem gC_get (g : Nat → Nat) {k : Nat} (h : k < 9) : (gC g)[k]? = some (.int .u8 (g k)) := by
  match k, h with
  | 0, _ | 1, _ | 2, _ | 3, _ | 4, _ | 5, _ | 6, _ | 7, _ | 8, _ => rfl
theorem gC_set (g : Nat → Nat) {k : Nat} (x : Nat) (h : k < 9) : (gC g).setIfInBounds k (.int .u8 x) = gC (upd g k x) := by
  match k, h with
  | 0, _ | 1, _ | 2, _ | 3, _ | 4, _ | 5, _ | 6, _ | 7, _ | 8, _ => rfl
/-- No life that a member had is above the lives that the view holds. -/
def Gone (g : Nat → Nat) (lv : Lv) : Prop := (∀ j, g j < 256) ∧ ∀ j, 1 ≤ j → j ≤ 8 → g j ≤ lv.get (j - 1)
theorem gone_zero (lv : Lv) : Gone (fun _ => 0) lv := ⟨fun _ => by simp only; omega, fun _ _ _ => Nat.zero_le _⟩
theorem gone_upd {g : Nat → Nat} {v : Vw} (hg : Gone g v.lv) (h : Good v) {m : Mem} (hm : m ∈ v.l) : Gone (upd g m.n (max (g m.n) m.l)) v.lv := by
  obtain ⟨r1, r2, r3, r4⟩ := h.range m hm
  refine ⟨fun j => ?_, fun j h1 h8 => ?_⟩
  · unfold upd
    split
    · have := hg.1 m.n; omega
    · exact hg.1 j
  · unfold upd
    split
    · rename_i e
      subst e
      rw [r4]
      have := hg.2 m.n r1 r2
      omega
    · exact hg.2 j h1 h8
theorem gone_apply {g : Nat → Nat} {v : Vw} {c : Cmd} (hg : Gone g v.lv) : Gone g (v.apply c).1.lv := by
  rcases apply_cases v c with ⟨_, _, _, h1, h8, hlt, _, e⟩ | ⟨_, _, _, e⟩ | ⟨_, _, e, _⟩
  · rw [e]
    refine ⟨hg.1, fun j j1 j8 => ?_⟩
    rw [get_set (by omega) (by omega)]
    have := hg.2 j j1 j8
    split
    · rename_i e; rw [← e] at this; omega
    · exact this
  · rw [e]; exact hg
  · rw [e]; exact hg
/-- The member that came has a life that no member had. -/
theorem gone_new {g : Nat → Nat} {v : Vw} {c : Cmd} (hg : Gone g v.lv) (hl : v.l.length < (v.apply c).1.l.length) (hi : (v.apply c).1.l.length - 1 < (v.apply c).1.l.length) :
    g ((v.apply c).1.l[(v.apply c).1.l.length - 1]'hi).n < ((v.apply c).1.l[(v.apply c).1.l.length - 1]'hi).l ∧ ((v.apply c).1.l[(v.apply c).1.l.length - 1]'hi).n ≤ 8 := by
  rcases apply_cases v c with ⟨_, _, _, h1, h8, hlt, e, _⟩ | ⟨_, h2, _⟩ | ⟨h2, _⟩
  · have hx : (v.apply c).1.l[(v.apply c).1.l.length - 1]'hi = ⟨c.n, c.l, false⟩ := by
      simp only [e]
      simp
    rw [hx]
    have := hg.2 c.n h1 h8
    simp only
    omega
  · omega
  · omega
end Go.Proofs.Ytkgahhfemlebmaa
