/-
  FrameSpoilt: how long an encoded frame may be; lists as the encoder wants them.
-/
import Derived.Test.YtodajejjhfpdmaaDoorFrmR
import Derived.Test.YtodajejjhfpdmaaDoorFrlT
namespace Go.Proofs.YtodajejjhfpdmaaDoor
open Go.RowKit Go.Instr

theorem memsAt_of {w : World} {v : Value} {l : List Mem} (h : memR.At w v l) : MemsAt w v l := by
  rcases h with ⟨rfl, rfl⟩ | ⟨b, off, cap, rfl, hb, hc⟩
  · exact .inl ⟨rfl, rfl⟩
  · refine .inr ⟨b, off, cap, rfl, hb, fun i hi => ?_⟩
    have h3 : ∀ j, j < 3 → ∀ u, (memR.f l[i])[j]? = some u → w.cell? ⟨b, off + i * 3 + j, none⟩ = some u := fun j hj u hu => by
      have := hc (i * 3 + j) u (by rw [show i * 3 + j = i * memR.c + j from rfl, memR.row_at l i j hi hj]; exact hu)
      rw [Nat.add_assoc]
      exact this
    exact ⟨h3 0 (by decide) _ rfl, h3 1 (by decide) _ rfl, h3 2 (by decide) _ rfl⟩
theorem entsAt_of {w : World} {v : Value} {l : List Ent} (h : entR.At w v l) : EntsAt w v l := by
  rcases h with ⟨rfl, rfl⟩ | ⟨b, off, cap, rfl, hb, hc⟩
  · exact .inl ⟨rfl, rfl⟩
  · refine .inr ⟨b, off, cap, rfl, hb, fun i hi => ?_⟩
    have h3 : ∀ j, j < 8 → ∀ u, (entR.f l[i])[j]? = some u → w.cell? ⟨b, off + i * 8 + j, none⟩ = some u := fun j hj u hu => by
      have := hc (i * 8 + j) u (by rw [show i * 8 + j = i * entR.c + j from rfl, entR.row_at l i j hi hj]; exact hu)
      rw [Nat.add_assoc]
      exact this
    exact ⟨h3 0 (by decide) _ rfl, h3 1 (by decide) _ rfl, h3 2 (by decide) _ rfl, h3 3 (by decide) _ rfl, h3 4 (by decide) _ rfl, h3 5 (by decide) _ rfl, h3 6 (by decide) _ rfl, h3 7 (by decide) _ rfl⟩
/-- How many bytes the field of a letter takes at most. -/
def wt (c : Nat) : Nat := if c = 87 then 37 else if c = 78 then 321 else if c = 86 then 60 else 11
theorem encs_n1 (n : Nat) (l : List PartV) : (encs (n1 n :: l)).length = 1 + (encs l).length := by simp [encs, enc, n1, beN_len]
theorem encs_n4 (n : Nat) (l : List PartV) : (encs (n4 n :: l)).length = 4 + (encs l).length := by simp [encs, enc, n4, beN_len]
theorem encs_nil : (encs []).length = 0 := rfl
theorem encs_flat {α : Type} (f : α → List PartV) (k : Nat) (h : ∀ a, (encs (f a)).length ≤ k) (l : List α) : (encs (l.flatMap f)).length ≤ k * l.length := by
  induction l with
  | nil => simp [encs]
  | cons a l ih =>
    rw [List.flatMap_cons, encs_app, List.length_append, List.length_cons]
    have := h a
    rw [Nat.mul_succ]
    omega
theorem encs_nB (b : Bool) (l : List PartV) : (encs (nB b :: l)).length = 1 + (encs l).length := by cases b <;> simp [encs, enc, nB, n1, beN_len]
theorem encs_pT (s : ByteArray) (l : List PartV) : (encs (pT s :: l)).length = 1 + s.size + (encs l).length := by
  have el2 : s.data.toList.length = s.size := rfl
  simp [encs, enc, pT]
  have : s.data.size = s.size := rfl
  omega
theorem fld_len (f : Fr) (c : Nat) (hfit : fitsF f c = true) (ht : f.text.size ≤ 40) : (encs (fldP f c)).length ≤ wt c := by
  have hM : ∀ m, (encs (pM m)).length ≤ 3 := fun m => by simp only [pM, encs_n1, encs_nB, encs_nil]; omega
  have hE : ∀ e, (encs (pE e)).length ≤ 20 := fun e => by simp only [pE, pC, List.cons_append, List.nil_append, encs_n1, encs_n4, encs_nil]; omega
  by_cases h87 : c = 87
  · subst h87
    have hms : f.ms.length ≤ 8 := by simpa [fitsF] using hfit
    have h1 := encs_flat pM 3 hM f.ms
    simp only [fldP, wt, lvL, List.map_cons, List.map_nil, if_true, encs_app, List.length_append, encs_n1, encs_n4, encs_nil, show (87 : Nat) = 69 ↔ False by decide, show (87 : Nat) = 75 ↔ False by decide, show (87 : Nat) = 84 ↔ False by decide, show (87 : Nat) = 86 ↔ False by decide, show (87 : Nat) = 77 ↔ False by decide, show (87 : Nat) = 68 ↔ False by decide, show (87 : Nat) = 70 ↔ False by decide, show (87 : Nat) = 76 ↔ False by decide, show (87 : Nat) = 82 ↔ False by decide, if_false]
    omega
  · by_cases h78 : c = 78
    · subst h78
      have hes : f.es.length ≤ 16 := by simpa [fitsF] using hfit
      have h1 := encs_flat pE 20 hE f.es
      have e : fldP f 78 = [n1 f.es.length] ++ f.es.flatMap pE := rfl
      rw [e, encs_app, List.length_append, encs_n1, encs_nil]
      simp only [wt, show (78 : Nat) = 87 ↔ False by decide, if_false, if_true]
      omega
    · by_cases h86 : c = 86
      · subst h86
        have e : fldP f 86 = [nB f.has, pT f.text] := rfl
        rw [e, encs_nB, encs_pT, encs_nil]
        simp only [wt, show (86 : Nat) = 87 ↔ False by decide, show (86 : Nat) = 78 ↔ False by decide, if_false, if_true]
        omega
      · have hw : wt c = 11 := by simp only [wt, if_neg h87, if_neg h78, if_neg h86]
        rw [hw]
        rcases Decidable.em (c = 69) with h69 | h69
        · subst h69
          show (encs [n4 f.epoch]).length ≤ 11
          simp only [encs_n4, encs_nil]
          try omega
        rcases Decidable.em (c = 75) with h75 | h75
        · subst h75
          show (encs [n1 f.key]).length ≤ 11
          simp only [encs_n1, encs_nil]
          try omega
        rcases Decidable.em (c = 84) with h84 | h84
        · subst h84
          show (encs [n4 f.sn, n1 f.sb, n1 f.sl]).length ≤ 11
          simp only [encs_n1, encs_n4, encs_nil]
          try omega
        rcases Decidable.em (c = 77) with h77 | h77
        · subst h77
          show (encs [nB f.rmw]).length ≤ 11
          simp only [encs_nB, encs_nil]
          try omega
        rcases Decidable.em (c = 68) with h68 | h68
        · subst h68
          show (encs [n1 f.dir]).length ≤ 11
          simp only [encs_n1, encs_nil]
          try omega
        rcases Decidable.em (c = 70) with h70 | h70
        · subst h70
          show (encs [nB f.flag]).length ≤ 11
          simp only [encs_nB, encs_nil]
          try omega
        rcases Decidable.em (c = 76) with h76 | h76
        · subst h76
          show (encs [n1 f.life]).length ≤ 11
          simp only [encs_n1, encs_nil]
          try omega
        rcases Decidable.em (c = 82) with h82 | h82
        · subst h82
          show (encs [n4 f.req]).length ≤ 11
          simp only [encs_n4, encs_nil]
          try omega
        rcases Decidable.em (c = 66) with h66 | h66
        · subst h66
          show (encs [n4 f.bn, n1 f.bb]).length ≤ 11
          simp only [encs_n1, encs_n4, encs_nil]
          try omega
        rcases Decidable.em (c = 83) with h83 | h83
        · subst h83
          show (encs [n4 f.slot]).length ≤ 11
          simp only [encs_n4, encs_nil]
          try omega
        rcases Decidable.em (c = 67) with h67 | h67
        · subst h67
          show (encs [n1 f.cmd.k, n1 f.cmd.n, n1 f.cmd.l, n4 f.cmd.e, n4 f.cmd.r]).length ≤ 11
          simp only [encs_n1, encs_n4, encs_nil]
          try omega
        have e : fldP f c = [] := by simp only [fldP, h69, h75, h84, h86, h77, h68, h70, h76, h82, h87, h66, h83, h78, h67, if_false]
        rw [e]
        exact Nat.zero_le _
theorem flds_len (f : Fr) (ht : f.text.size ≤ 40) (l : List Nat) (hfit : ∀ c ∈ l, fitsF f c = true) : (encs (l.flatMap (fldP f))).length ≤ (l.map wt).foldl (· + ·) 0 := by
  have key : ∀ (l : List Nat) (k : Nat), (∀ c ∈ l, fitsF f c = true) → k + (encs (l.flatMap (fldP f))).length ≤ (l.map wt).foldl (· + ·) k := by
    intro l
    induction l with
    | nil => intro k _; simp [encs]
    | cons c l ih =>
      intro k h
      have h1 := fld_len f c (h c (by simp)) ht
      have h2 := ih (k + wt c) (fun d hd => h d (by simp [hd]))
      rw [List.flatMap_cons, encs_app, List.length_append, List.map_cons, List.foldl_cons]
      omega
  have := key l 0 hfit
  omega
theorem bodyF_small (f : Fr) (hv : validF f = true) (ht : f.text.size ≤ 40) : (bodyF f).size ≤ 1000 := by
  unfold validF at hv
  rw [Bool.and_eq_true] at hv
  have h1 := flds_len f ht (letK f.kind) (List.all_eq_true.1 hv.2)
  have h2 : ∀ k, ((letK k).map wt).foldl (· + ·) 0 ≤ 900 := by
    intro k
    unfold letK
    split <;> decide
  have h3 := h2 f.kind
  unfold bodyF joinS
  split
  · have e : (⟨(encs (partsF f)).toArray⟩ : ByteArray).size = (encs (partsF f)).length := by simp [ByteArray.size]
    rw [e]
    unfold partsF
    rw [encs_app, List.length_append, encs_n1, encs_n1, encs_n1, encs_nil]
    omega
  · exact Nat.zero_le _
end Go.Proofs.YtodajejjhfpdmaaDoor
