/-
  The reference's Apply, whatever the command: the view that the program's leaves.
-/
import Derived.Test.YtkgahhfemlebmaaRefG1
import Derived.Test.YtkgahhfemlebmaaRefG2
import Derived.Test.YtkgahhfemlebmaaRefG3
import Derived.Test.YtkgahhfemlebmaaRefG4
import Derived.Test.YtkgahhfemlebmaaRefG5
import Derived.Test.YtkgahhfemlebmaaRefG6
import Derived.Test.YtkgahhfemlebmaaRefG7
import Derived.Test.YtkgahhfemlebmaaRefG8
import Derived.Test.YtkgahhfemlebmaaRefG9
import Derived.Test.YtkgahhfemlebmaaViewM
namespace Go.Proofs.Ytkgahhfemlebmaa
open Go.RowKit Go.Instr

theorem idxOf_hit {p : Mem → Bool} {l : List Mem} {i : Nat} (h : idxOf p l = i) : ∃ hi : i < l.length, p l[i] = true := by
  induction l generalizing i with
  | nil => simp [idxOf] at h
  | cons a l ih =>
    simp only [idxOf] at h
    by_cases hp : p a = true
    · rw [if_pos hp] at h
      obtain rfl : i = 0 := by omega
      exact ⟨by simp, hp⟩
    · rw [if_neg hp] at h
      split at h
      · omega
      · rename_i hge
        obtain ⟨k, hk⟩ := Int.eq_ofNat_of_zero_le (show 0 ≤ idxOf p l by omega)
        obtain ⟨hi, hpi⟩ := ih hk
        obtain rfl : i = k + 1 := by omega
        exact ⟨by simpa using hi, by simpa using hpi⟩
theorem nodup_at {l : List Mem} (hnd : (l.map (·.n)).Nodup) {i j : Nat} (hi : i < l.length) (hj : j < l.length) (h : l[i].n = l[j].n) : i = j := by
  have hp := List.pairwise_iff_getElem.1 hnd
  rcases Nat.lt_trichotomy i j with h1 | h1 | h1
  · exact absurd (by rw [List.getElem_map, List.getElem_map]; exact h) (hp i j (by simpa using hi) (by simpa using hj) h1)
  · exact h1
  · exact absurd (by rw [List.getElem_map, List.getElem_map]; exact h.symm) (hp j i (by simpa using hj) (by simpa using hi) h1)
theorem both_none {l : List Mem} {n cl : Nat} (h : ∀ j (hj : j < l.length), ¬ (l[j].n = n ∧ l[j].l = cl)) : idxOf (isBoth n cl) l = -1 :=
  idxOf_none fun j hj => by simpa [isBoth] using h j hj
theorem freeB_no {n cl : Nat} {lv : Lv} {l : List Mem} (h : freeB n cl lv l = false) : 0 ≤ idxOf (isNode n) l ∨ 8 ≤ l.length ∨ n < 1 ∨ 8 < n ∨ 200 < cl ∨ cl ≤ lv.get (n - 1) := by
  simp only [freeB, decide_eq_false_iff_not] at h
  omega
theorem freeB_yes {n cl : Nat} {lv : Lv} {l : List Mem} (h : freeB n cl lv l = true) : 1 ≤ n ∧ n ≤ 8 ∧ cl ≤ 200 ∧ lv.get (n - 1) < cl ∧ idxOf (isNode n) l < 0 ∧ l.length < 8 := decide_eq_true_iff.1 h
/-- A command to admit. -/
theorem refApply_1 (e : Nat) (s : Value) (lv : Lv) (l : List Mem) (n cl ce cr : Nat) (r : Int) (th la : Bool) (w : World) (hl : l.length ≤ 40) (hpos : 0 < l.length) (hs : MemsAt w s l) (hr : idxOf (isNode n) l = r) (hla : ((e : Int) == 4294967295) = la) (he : e < 4294967296)
    (hth : (r = -1 ∧ th = false) ∨ ∃ (i : Nat), r = i ∧ ∃ hi : i < l.length, th = decide ((l[i]'hi).l = cl)) :
    Calls Try.prog 10 #[.agg (vC e s lv), .agg #[.int .u8 1, .int .u8 n, .int .u8 cl, .int .u32 ce]] w (AppP w (Vw.apply ⟨e, lv, l⟩ ⟨1, n, cl, ce, cr⟩)) := by
  have hla' : la = decide (e = 4294967295) := by rw [← hla, Bool.eq_iff_iff]; simp; omega
  have hap : Vw.apply ⟨e, lv, l⟩ ⟨1, n, cl, ce, cr⟩ = if freeB n cl lv l = true ∧ e ≠ 4294967295 then (⟨e + 1, lv.set (n - 1) cl, l ++ [⟨n, cl, false⟩]⟩, true) else (⟨e, lv, l⟩, false) := by
    unfold Vw.apply
    simp only
    rw [if_neg (by decide), if_pos trivial]
  rw [hap]
  by_cases h7 : la = true ∨ 0 ≤ r ∨ 8 ≤ l.length ∨ n < 1 ∨ 8 < n ∨ cl < 1 ∨ 200 < cl
  · rw [if_neg]
    · exact refApply_1n e s lv l n cl ce r th la w hl hs hr hla hth h7
    · rintro ⟨h1, h2⟩
      obtain ⟨a1, a2, a3, a4, a5, a6⟩ := freeB_yes h1
      rw [hr] at a5
      rcases h7 with h | h | h | h | h | h | h
      · rw [hla'] at h; exact h2 (of_decide_eq_true h)
      · omega
      · omega
      · omega
      · omega
      · omega
      · omega
  · have b1 : la = false := by cases la; rfl; exact absurd (.inl rfl) h7
    obtain ⟨n', rfl⟩ : ∃ n', n = n' + 1 := ⟨n - 1, by omega⟩
    have hee : e < 4294967295 := by
      rw [b1] at hla'
      have := of_decide_eq_false hla'.symm
      omega
    by_cases hlo : cl ≤ lv.get n'
    · rw [if_neg]
      · exact refApply_1l e s lv l (n' + 1) cl ce r th la w hl hs hr hla hth n' b1 rfl (by omega) (by omega) (by omega) (by omega) (by omega) hlo
      · rintro ⟨h1, h2⟩
        obtain ⟨a1, a2, a3, a4, a5, a6⟩ := freeB_yes h1
        rw [Nat.add_sub_cancel] at a4
        omega
    · rw [if_pos]
      · rw [Nat.add_sub_cancel]
        exact refApply_1y e s lv l (n' + 1) cl ce r th la w hl hs hr hla hth n' b1 rfl (by omega) (by omega) (by omega) (by omega) (by omega) (by omega) hee hpos
      · refine ⟨?_, by omega⟩
        refine decide_eq_true ⟨by omega, by omega, by omega, by rw [Nat.add_sub_cancel]; omega, by rw [hr]; omega, by omega⟩
theorem refApply_any (s : Value) (v : Vw) (k n cl ce cr : Nat) (w : World) (hg : Good v) (hs : MemsAt w s v.l) (he : v.e < 4294967296) :
    Calls Try.prog 10 #[.agg (vC v.e s v.lv), .agg #[.int .u8 k, .int .u8 n, .int .u8 cl, .int .u32 ce]] w (AppP w (v.apply ⟨k, n, cl, ce, cr⟩)) := by
  obtain ⟨e, lv, l⟩ := v
  have hl : l.length ≤ 40 := by have := hg.len; simp only at this; omega
  have hl8 : l.length ≤ 8 := hg.len
  have hnd : (l.map (·.n)).Nodup := hg.nodup
  simp only at hs he ⊢
  have hpos : 0 < l.length := by
    have := hg.ready
    simp only at this
    have h2 := readyN_le l
    omega
  obtain ⟨la, hla⟩ : ∃ la, ((e : Int) == 4294967295) = la := ⟨_, rfl⟩
  have hla' : la = decide (e = 4294967295) := by rw [← hla, Bool.eq_iff_iff]; simp; omega
  have main : ∀ (r : Int) (th : Bool), idxOf (isNode n) l = r → ((r = -1 ∧ th = false) ∨ ∃ (i : Nat), r = i ∧ ∃ hi : i < l.length, th = decide ((l[i]'hi).l = cl)) → ((th = false ∧ idxOf (isBoth n cl) l = -1) ∨ (th = true ∧ ∃ i : Nat, r = i ∧ i < l.length ∧ idxOf (isBoth n cl) l = i)) →
      Calls Try.prog 10 #[.agg (vC e s lv), .agg #[.int .u8 k, .int .u8 n, .int .u8 cl, .int .u32 ce]] w (AppP w (Vw.apply ⟨e, lv, l⟩ ⟨k, n, cl, ce, cr⟩)) := by
    intro r th hr hth hb
    by_cases k0 : k = 0
    · subst k0
      have e1 : Vw.apply ⟨e, lv, l⟩ ⟨0, n, cl, ce, cr⟩ = (⟨e, lv, l⟩, true) := by unfold Vw.apply; simp only; rw [if_pos trivial]
      rw [e1]
      exact refApply_0 e s lv l n cl ce r th w hl hs hr hth
    by_cases k1 : k = 1
    · subst k1
      exact refApply_1 e s lv l n cl ce cr r th la w hl hpos hs hr hla he hth
    rcases hb with ⟨hf, hb⟩ | ⟨ht, i, hri, hi, hb⟩
    · have e1 : Vw.apply ⟨e, lv, l⟩ ⟨k, n, cl, ce, cr⟩ = (⟨e, lv, l⟩, false) := by
        unfold Vw.apply
        simp only [hb]
        rw [if_neg k0, if_neg k1]
        by_cases k2 : k = 2
        · rw [if_pos k2, if_neg (by simp)]
        rw [if_neg k2]
        by_cases k3 : k = 3
        · rw [if_pos k3, if_neg (by simp)]
        rw [if_neg k3]
        by_cases k4 : k = 4
        · rw [if_pos k4]; simp
        rw [if_neg k4]
      rw [e1]
      exact refApply_nt e s lv l n cl ce r th la w hl hs hr hla hth k (by omega) hf
    · by_cases k2 : k = 2
      · subst k2
        have e1 : Vw.apply ⟨e, lv, l⟩ ⟨2, n, cl, ce, cr⟩ = if remB e l i = true then (⟨e + 1, lv, l.eraseIdx i⟩, true) else (⟨e, lv, l⟩, false) := by
          unfold Vw.apply
          simp only [hb]
          rw [if_neg (by decide), if_neg (by decide), if_pos trivial, Int.toNat_natCast]
          by_cases hrem : remB e l i = true
          · rw [if_pos ⟨by omega, hrem⟩, if_pos hrem]
          · rw [if_neg (fun h => hrem h.2), if_neg hrem]
        rw [e1]
        have hrb : readyBut r l 0 = readyN (l.eraseIdx i) := by
          have := readyBut_erase l i 0
          rw [hri]
          simpa using this
        by_cases hrem : remB e l i = true
        · rw [if_pos hrem]
          obtain ⟨q1, q2⟩ := decide_eq_true_iff.1 hrem
          have b1 : la = false := by rw [hla']; exact decide_eq_false q2
          have hrb2 : readyBut (i : Int) l 0 = readyN (l.eraseIdx i) := by rw [← hri]; exact hrb
          exact refApply_2y e s lv l n cl ce r th la w hl hs hr hla hth i _ ht hri b1 hi hrb2 q1 (by omega)
        · rw [if_neg hrem]
          refine refApply_2n e s lv l n cl ce r th la w hl hs hr hla hth i ht hri ?_
          by_cases he2 : e = 4294967295
          · exact .inl (by rw [hla']; exact decide_eq_true he2)
          · right
            rw [hrb]
            have : ¬ 0 < readyN (l.eraseIdx i) := fun h => hrem (decide_eq_true ⟨h, he2⟩)
            omega
      by_cases k3 : k = 3
      · subst k3
        have e1 : Vw.apply ⟨e, lv, l⟩ ⟨3, n, cl, ce, cr⟩ = (⟨e, lv, l.modify i fun m => { m with r := true }⟩, true) := by
          unfold Vw.apply
          simp only [hb]
          rw [if_neg (by decide), if_neg (by decide), if_neg (by decide), if_pos trivial, Int.toNat_natCast, if_pos (by omega)]
        rw [e1]
        exact refApply_3 e s lv l n cl ce r th la w hl hs hr hla hth i ht hri hi
      by_cases k4 : k = 4
      · subst k4
        have e1 : Vw.apply ⟨e, lv, l⟩ ⟨4, n, cl, ce, cr⟩ = (⟨e, lv, l⟩, decide (ce = e)) := by
          unfold Vw.apply
          simp only [hb]
          rw [if_neg (by decide), if_neg (by decide), if_neg (by decide), if_neg (by decide), if_pos trivial]
          congr 1
          rw [Bool.eq_iff_iff]
          simp
          try omega
        rw [e1]
        exact refApply_4 e s lv l n cl ce r th la w hl hs hr hla hth (decide (ce = e)) ht (by rw [Bool.eq_iff_iff]; simp; try omega)
      · have e1 : Vw.apply ⟨e, lv, l⟩ ⟨k, n, cl, ce, cr⟩ = (⟨e, lv, l⟩, false) := by
          unfold Vw.apply
          simp only
          rw [if_neg k0, if_neg k1, if_neg k2, if_neg k3, if_neg k4]
        rw [e1]
        exact refApply_x e s lv l n cl ce r th la w hl hs hr hla hth k (by omega) ht
  rcases idx_cases (isNode n) l with hr | ⟨i, hr, hi⟩
  · refine main (-1) false hr (.inl ⟨rfl, rfl⟩) (.inl ⟨rfl, both_none fun j hj hh => ?_⟩)
    have := idxOf_neg (p := isNode n) (l := l) (by omega) l[j] (List.getElem_mem hj)
    simp [isNode] at this
    exact this hh.1
  · obtain ⟨_, hp⟩ := idxOf_hit hr
    have hn : l[i].n = n := by simpa [isNode] using hp
    refine main i (decide (l[i].l = cl)) hr (.inr ⟨i, rfl, hi, rfl⟩) ?_
    by_cases hc : l[i].l = cl
    · refine .inr ⟨decide_eq_true hc, i, rfl, hi, idxOf_at (fun j hj hji => ?_) hi (by simp [isBoth, hn, hc])⟩
      have hne : l[j].n ≠ n := fun h => by
        have := nodup_at hnd hj hi (h.trans hn.symm)
        omega
      simp [isBoth, hne]
    · refine .inl ⟨decide_eq_false hc, both_none fun j hj hh => ?_⟩
      have := nodup_at hnd hj hi (hh.1.trans hn.symm)
      subst this
      exact hc hh.2
end Go.Proofs.Ytkgahhfemlebmaa
