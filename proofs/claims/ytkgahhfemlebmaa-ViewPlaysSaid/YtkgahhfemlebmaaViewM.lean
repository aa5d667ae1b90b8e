/-
  What holds of every view that the store comes to: mathematics, without a walk.
-/
import Derived.Test.YtkgahhfemlebmaaViewH
import Derived.Test.YtkgahhfemlebmaaViewJ
namespace Go.Proofs.Ytkgahhfemlebmaa
open Go.RowKit Go.Instr

/-- What holds of every view that the store comes to. -/
structure Good (v : Vw) : Prop where
  nodup : (v.l.map (·.n)).Nodup
  range : ∀ m ∈ v.l, 1 ≤ m.n ∧ m.n ≤ 8 ∧ m.l < 256 ∧ v.lv.get (m.n - 1) = m.l
  ready : 0 < readyN v.l
  len : v.l.length ≤ 8
theorem get_set {lv : Lv} {k j x : Nat} (hk : k < 8) (hj : j < 8) : (lv.set k x).get j = if k = j then x else lv.get j := by
  match k, hk with
  | 0, _ | 1, _ | 2, _ | 3, _ | 4, _ | 5, _ | 6, _ | 7, _ =>
    match j, hj with
    | 0, _ | 1, _ | 2, _ | 3, _ | 4, _ | 5, _ | 6, _ | 7, _ => rfl
theorem get_lives {n k : Nat} (hn : n ≤ 8) (hk : k < n) : (livesN n).get k = 1 := by
  induction n with
  | zero => omega
  | succ n ih =>
    rw [livesN, get_set (by omega) (by omega)]
    split
    · rfl
    · exact ih (by omega) (by omega)
theorem firstN_nodes (n : Nat) : (firstN n).map (·.n) = (List.range n).map (· + 1) := by simp [firstN]
theorem good_first {n : Nat} (h1 : 1 ≤ n) (h8 : n ≤ 8) : Good (firstV n) := by
  refine ⟨?_, ?_, ?_, ?_⟩
  · show ((firstN n).map (·.n)).Nodup
    rw [firstN_nodes]
    exact List.Pairwise.map _ (fun a b hab => by simpa using hab) List.nodup_range
  · intro m hm
    obtain ⟨i, hi, rfl⟩ := List.mem_map.1 (show m ∈ (List.range n).map _ from hm)
    have hin := List.mem_range.1 hi
    exact ⟨by simp only; omega, by simp only; omega, by simp only; omega, by simp only [Nat.add_sub_cancel]; exact get_lives h8 hin⟩
  · show 0 < readyN (firstN n)
    obtain ⟨k, rfl⟩ : ∃ k, n = k + 1 := ⟨n - 1, by omega⟩
    rw [firstN_succ]
    simp [readyN]
  · show (firstN n).length ≤ 8
    rw [firstN_len]; exact h8
theorem idxOf_neg {p : Mem → Bool} {l : List Mem} (h : idxOf p l < 0) : ∀ m ∈ l, p m = false := by
  induction l with
  | nil => intro m hm; cases hm
  | cons a l ih =>
    simp only [idxOf] at h
    by_cases hp : p a = true
    · rw [if_pos hp] at h; omega
    · rw [if_neg hp] at h
      intro m hm
      rcases List.mem_cons.1 hm with rfl | hm
      · simpa using hp
      · refine ih ?_ m hm
        split at h
        · assumption
        · have := idxOf_bd p l; omega
theorem readyN_modify {l : List Mem} (h : 0 < readyN l) (i : Nat) : 0 < readyN (l.modify i fun m => { m with r := true }) := by
  unfold readyN at *
  obtain ⟨m, hm, hr⟩ := List.countP_pos_iff.1 h
  obtain ⟨j, hj, rfl⟩ := List.mem_iff_getElem.1 hm
  refine List.countP_pos_iff.2 ⟨(l.modify i fun m => { m with r := true })[j]'(by rw [List.length_modify]; exact hj), List.getElem_mem _, ?_⟩
  rw [List.getElem_modify]
  split
  · rfl
  · exact hr
theorem good_apply {v : Vw} {c : Cmd} (h : Good v) (hc : c.fine) : Good (v.apply c).1 := by
  unfold Vw.apply
  split
  · exact h
  split
  · split
    · rename_i hf
      obtain ⟨h1, h2, h3, h4, h5, h6⟩ := decide_eq_true_iff.1 hf.1
      have hno := idxOf_neg h5
      refine ⟨?_, ?_, ?_, ?_⟩
      · simp only [List.map_append, List.map_cons, List.map_nil]
        rw [List.nodup_append]
        refine ⟨h.nodup, by simp, ?_⟩
        intro a ha b hb hab
        obtain ⟨m, hm, rfl⟩ := List.mem_map.1 ha
        rw [List.mem_singleton.1 hb] at hab
        have := hno m hm
        simp [isNode, hab] at this
      · intro m hm
        rcases List.mem_append.1 hm with hm | hm
        · obtain ⟨r1, r2, r3, r4⟩ := h.range m hm
          refine ⟨r1, r2, r3, ?_⟩
          have hne : m.n ≠ c.n := by have := hno m hm; simpa [isNode] using this
          simp only
          rw [get_set (by omega) (by omega), if_neg (by omega)]
          exact r4
        · rw [List.mem_singleton.1 hm]
          simp only
          refine ⟨h1, h2, hc.2.2.1, ?_⟩
          rw [get_set (by omega) (by omega), if_pos rfl]
      · have := h.ready
        simp only [readyN, List.countP_append] at *
        omega
      · simp only [List.length_append, List.length_cons, List.length_nil]; omega
    · exact h
  split
  · split
    · rename_i hf
      have hr := (decide_eq_true_iff.1 hf.2).1
      generalize (idxOf (isBoth c.n c.l) v.l).toNat = i at hr ⊢
      refine ⟨?_, ?_, hr, ?_⟩
      · simp only
        have hs : (v.l.eraseIdx i).Sublist v.l := List.eraseIdx_sublist ..
        exact h.nodup.sublist (hs.map _)
      · intro m hm
        exact h.range m (List.mem_of_mem_eraseIdx hm)
      · simp only
        have := List.length_eraseIdx_le v.l i
        have := h.len
        omega
    · exact h
  split
  · split
    · generalize (idxOf (isBoth c.n c.l) v.l).toNat = i
      refine ⟨?_, ?_, readyN_modify h.ready i, ?_⟩
      · simp only
        have e : (v.l.modify i fun m => { m with r := true }).map (·.n) = v.l.map (·.n) := by
          apply List.ext_getElem
          · simp
          · intro j h1 h2
            rw [List.getElem_map, List.getElem_map, List.getElem_modify]
            split <;> rfl
        rw [e]
        exact h.nodup
      · intro m hm
        obtain ⟨j, hj, rfl⟩ := List.mem_iff_getElem.1 hm
        rw [List.getElem_modify]
        rw [List.length_modify] at hj
        have := h.range v.l[j] (List.getElem_mem _)
        split
        · exact this
        · exact this
      · simp only [List.length_modify]; exact h.len
    · exact h
  split
  · exact h
  · exact h
theorem epoch_first (n : Nat) : (firstV n).e ≤ 0 + 1 := Nat.le_refl _
theorem epoch_apply {v : Vw} {c : Cmd} {k : Nat} (h : v.e ≤ k) : (v.apply c).1.e ≤ k + 1 := by
  unfold Vw.apply
  repeat' split
  all_goals simp only
  all_goals omega
theorem good_node {v : Vw} (h : Good v) {j : Nat} (hj : j < v.l.length) : idxOf (isNode v.l[j].n) v.l = j := by
  refine idxOf_at (fun i hi hij => ?_) hj (by simp [isNode])
  have := (List.pairwise_iff_getElem.1 h.nodup) i j (by simpa using hi) (by simpa using hj) hij
  simpa [isNode] using this
theorem good_both {v : Vw} (h : Good v) {j : Nat} (hj : j < v.l.length) : idxOf (isBoth v.l[j].n v.l[j].l) v.l = j := by
  refine idxOf_at (fun i hi hij => ?_) hj (by simp [isBoth])
  have := (List.pairwise_iff_getElem.1 h.nodup) i j (by simpa using hi) (by simpa using hj) hij
  simp only [List.getElem_map] at this
  simp [isBoth, this]
theorem good_others {v : Vw} (h : Good v) {j : Nat} (hj : j < v.l.length) : (othN v.l[j].n v.l).length = v.l.length - 1 := by
  have h1 : v.l.countP (isNode v.l[j].n) = 1 := by
    have h2 : (v.l.map (·.n)).count v.l[j].n = 1 := by
      rw [h.nodup.count, if_pos]
      exact List.mem_map_of_mem (List.getElem_mem _)
    rw [List.count, List.countP_map] at h2
    rw [← h2]
    apply List.countP_congr
    intro m _
    simp [isNode]
  have h3 := List.length_eq_countP_add_countP (isNode v.l[j].n) (l := v.l)
  rw [othN, List.length_map, ← List.countP_eq_length_filter]
  have h4 : v.l.countP (fun m => !isNode v.l[j].n m) = v.l.countP (fun m => ¬ isNode v.l[j].n m = true) := by
    apply List.countP_congr
    intro m _
    simp
  rw [h4]
  omega
end Go.Proofs.Ytkgahhfemlebmaa
