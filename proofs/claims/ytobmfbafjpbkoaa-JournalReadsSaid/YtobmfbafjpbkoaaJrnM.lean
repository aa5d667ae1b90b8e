/-
  Mathematics of records: their encodings, and which records begin a text.
-/
import Derived.Test.YtobmfbafjpbkoaaCrcO
import Derived.Test.YtobmfbafjpbkoaaOctB
namespace Go.Proofs.Ytobmfbafjpbkoaa
open Go.RowKit Go.Instr

theorem bext {a b : ByteArray} (h : a.data.toList = b.data.toList) : a = b := Go.WideShapes.bytes_inj h
theorem bapp (a b : ByteArray) : (a ++ b).data.toList = a.data.toList ++ b.data.toList := by rw [ByteArray.data_append, Array.toList_append]
/-- The length of a record in two bytes, and the record. -/
def body (x : ByteArray) : ByteArray := ⟨(beN x.size 2).toArray⟩ ++ x
/-- The encoding of a record. -/
def fr (x : ByteArray) : ByteArray := body x ++ sealB (body x)
def frs (l : List ByteArray) : ByteArray := ⟨(l.flatMap fun x => (fr x).data.toList).toArray⟩
def okR (x : ByteArray) : Prop := 1 ≤ x.size ∧ x.size ≤ 512
theorem fr_list (x : ByteArray) : (fr x).data.toList = beN x.size 2 ++ x.data.toList ++ (sealB (body x)).data.toList := by
  rw [fr, bapp, body, bapp]
theorem seal_len (x : ByteArray) : (sealB x).data.toList.length = 4 := sealB_size x
theorem fr_size (x : ByteArray) : (fr x).size = x.size + 6 := by
  have : (fr x).data.toList.length = x.size + 6 := by
    rw [fr_list]
    simp only [List.length_append, beN_len, seal_len]
    have : x.data.toList.length = x.size := rfl
    omega
  exact this
theorem frs_nil : frs [] = ByteArray.empty := rfl
theorem frs_snoc (l : List ByteArray) (x : ByteArray) : frs (l ++ [x]) = frs l ++ fr x := by
  apply bext; rw [bapp]; simp [frs]
theorem frs_cons (l : List ByteArray) (x : ByteArray) : frs (x :: l) = fr x ++ frs l := by
  apply bext; rw [bapp]; simp [frs]
theorem be2_inj {n m : Nat} (hn : n < 65536) (hm : m < 65536) (h : beN n 2 = beN m 2) : n = m := by
  simp only [beN, List.range, List.range.loop, List.map_cons, List.map_nil, List.cons.injEq, and_true] at h
  have h1 := congrArg UInt8.toNat h.1
  have h2 := congrArg UInt8.toNat h.2
  simp at h1 h2
  omega
/-- An encoding begins no other one. -/
theorem fr_free {x y : ByteArray} {a b : List UInt8} (hx : x.size < 65536) (hy : y.size < 65536) (h : (fr x).data.toList ++ a = (fr y).data.toList ++ b) : x = y := by
  rw [fr_list, fr_list] at h
  simp only [List.append_assoc] at h
  have h1 := congrArg (List.take 2) h
  rw [List.take_left' (beN_len _ _), List.take_left' (beN_len _ _)] at h1
  have hs := be2_inj hx hy h1
  have h2 := congrArg (List.drop 2) h
  rw [List.drop_left' (beN_len _ _), List.drop_left' (beN_len _ _)] at h2
  have h3 := congrArg (List.take x.size) h2
  rw [List.take_left' (show x.data.toList.length = x.size from rfl), List.take_left' (show y.data.toList.length = x.size from hs.symm)] at h3
  exact bext h3
/-- The text begins with the encoding of a record. -/
def Begins (s : ByteArray) : Prop := ∃ x a, okR x ∧ s = fr x ++ a
/-- The records of a text, and what is behind them. -/
def IsRecs (s : ByteArray) (l : List ByteArray) (r : ByteArray) : Prop := s = frs l ++ r ∧ (∀ x ∈ l, okR x) ∧ ¬ Begins r
theorem app_cancel {a b c : ByteArray} (h : a ++ b = a ++ c) : b = c := by
  have := congrArg (fun z : ByteArray => z.data.toList) h
  simp only [bapp] at this
  exact bext (List.append_cancel_left this)
theorem b_assoc (a b c : ByteArray) : a ++ b ++ c = a ++ (b ++ c) := by apply bext; simp [bapp]
theorem b_nil (a : ByteArray) : a ++ ByteArray.empty = a := by apply bext; rw [bapp]; exact List.append_nil _
theorem b_nil' (a : ByteArray) : ByteArray.empty ++ a = a := by apply bext; rw [bapp]; rfl
theorem b_nil2 (a : ByteArray) : (⟨#[]⟩ : ByteArray) ++ a = a := b_nil' a
/-- There is one answer. -/
theorem recs_one {l : List ByteArray} : ∀ {s r : ByteArray} {l' : List ByteArray} {r' : ByteArray}, IsRecs s l r → IsRecs s l' r' → l = l' ∧ r = r' := by
  induction l with
  | nil =>
    intro s r l' r' h h'
    cases l' with
    | nil =>
      refine ⟨rfl, ?_⟩
      have := h.1.symm.trans h'.1
      rw [frs_nil, b_nil', b_nil'] at this
      exact this
    | cons y l' =>
      exfalso
      apply h.2.2
      have := h.1.symm.trans h'.1
      rw [frs_nil, b_nil', frs_cons, b_assoc] at this
      exact ⟨y, _, h'.2.1 y (by simp), this⟩
  | cons x l ih =>
    intro s r l' r' h h'
    cases l' with
    | nil =>
      exfalso
      apply h'.2.2
      have := h'.1.symm.trans h.1
      rw [frs_nil, b_nil', frs_cons, b_assoc] at this
      exact ⟨x, _, h.2.1 x (by simp), this⟩
    | cons y l' =>
      have e := h.1.symm.trans h'.1
      rw [frs_cons, frs_cons, b_assoc, b_assoc] at e
      have hx := h.2.1 x (by simp)
      have hy := h'.2.1 y (by simp)
      have e2 := congrArg (fun z : ByteArray => z.data.toList) e
      simp only [bapp (fr x), bapp (fr y)] at e2
      have hxy : x = y := fr_free (by have := hx.2; omega) (by have := hy.2; omega) e2
      subst hxy
      have e3 := app_cancel e
      have := ih (s := frs l ++ r) (r := r) (l' := l') (r' := r') ⟨rfl, fun z hz => h.2.1 z (List.mem_cons_of_mem _ hz), h.2.2⟩ ⟨e3, fun z hz => h'.2.1 z (List.mem_cons_of_mem _ hz), h'.2.2⟩
      exact ⟨by rw [this.1], this.2⟩
theorem not_begins_short {r : ByteArray} (h : r.size < 7) : ¬ Begins r := by
  rintro ⟨x, a, hx, rfl⟩
  rw [ByteArray.size_append, fr_size] at h
  have := hx.1
  omega
theorem recs_whole {l : List ByteArray} (h : ∀ x ∈ l, okR x) : IsRecs (frs l) l ByteArray.empty := ⟨(b_nil _).symm, h, not_begins_short (by decide)⟩
/-- A torn record is none. -/
theorem recs_torn {l : List ByteArray} {x : ByteArray} (h : ∀ x ∈ l, okR x) (hx : okR x) (n : Nat) (hn : n ≤ (fr x).size) :
    ∃ l' r, IsRecs (frs l ++ (fr x).extract 0 n) l' r ∧ (l' = l ∨ l' = l ++ [x]) := by
  by_cases hf : n = (fr x).size
  · refine ⟨l ++ [x], ByteArray.empty, ⟨?_, ?_, not_begins_short (by decide)⟩, .inr rfl⟩
    · rw [b_nil, frs_snoc]
      congr 1
      subst hf
      apply bext
      rw [Lib.extract_data]
      simp only [List.drop_zero, Nat.sub_zero]
      exact List.take_of_length_le (Nat.le_refl _)
    · intro y hy
      rcases List.mem_append.1 hy with h1 | h1
      · exact h y h1
      · rw [List.mem_singleton.1 h1]; exact hx
  · refine ⟨l, (fr x).extract 0 n, ⟨rfl, h, ?_⟩, .inl rfl⟩
    rintro ⟨y, a, hy, e⟩
    have e2 := congrArg (fun z : ByteArray => z.data.toList) e
    simp only [bapp, Lib.extract_data, List.drop_zero, Nat.sub_zero] at e2
    have e3 : (fr y).data.toList ++ (a.data.toList ++ (fr x).data.toList.drop n) = (fr x).data.toList ++ [] := by
      rw [← List.append_assoc, ← e2, List.take_append_drop, List.append_nil]
    have hxy : y = x := fr_free (by have := hy.2; omega) (by have := hx.2; omega) e3
    subst hxy
    have := congrArg List.length e2
    rw [List.length_append, List.length_take] at this
    have hl : (fr y).data.toList.length = (fr y).size := rfl
    omega
theorem recs_snoc {s r a : ByteArray} {l : List ByteArray} {x : ByteArray} (h : s = frs l ++ r) (hr : r = fr x ++ a) : s = frs (l ++ [x]) ++ a := by
  rw [h, hr, frs_snoc, b_assoc]
end Go.Proofs.Ytobmfbafjpbkoaa
