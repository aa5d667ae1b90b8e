/-
  Sum of a list of texts that the call itself has made by append; texts cut and joined.
-/
import Derived.Test.YtlafpdhjknpfbaaCrcS
import Derived.Test.YtlafpdhjknpfbaaOwn
namespace Go.Proofs.Ytlafpdhjknpfbaa
open Go.RowKit Go.Instr

theorem Try.info9 : (Try.prog.info? 9).map (fun i => (i.zero, i.size, i.bytes)) = some (some (.string ByteArray.empty), 1, 16) := by kernel_rfl

theorem flat_add (ss : List ByteArray) (a : ByteArray) : flat (ss ++ [a]) = flat ss ++ a.data.toList := by simp [flat]
theorem halves (rs : ByteArray) (m : Nat) (_h : m ≤ rs.size) : (rs.extract 0 m).data.toList ++ (rs.extract m rs.size).data.toList = rs.data.toList := by
  rw [Lib.extract_data, Lib.extract_data, List.drop_zero, Nat.sub_zero, List.take_of_length_le (l := rs.data.toList.drop m) (by rw [List.length_drop]; exact Nat.le_refl _), List.take_append_drop]
theorem one_cells (ss : List ByteArray) : ∀ u ∈ ss.map Value.string, u.oneCell' = true := by
  intro u hu
  obtain ⟨s, _, rfl⟩ := List.mem_map.1 hu
  rfl
theorem flat_mem {ss : List ByteArray} {s : ByteArray} (h : s ∈ ss) : s.size ≤ (flat ss).length := by
  induction ss with
  | nil => cases h
  | cons a ss ih =>
    have e : (flat (a :: ss)).length = a.size + (flat ss).length := by simp [flat]
    rcases List.mem_cons.1 h with rfl | h
    · omega
    · have := ih h
      omega
theorem strs_own {w : World} {base : Nat} {v : Value} {n : Nat} {ss : List ByteArray} (h : w.ownsRow base 9 1 v n (ss.map Value.string)) (hs : (flat ss).length ≤ maxLen) : StrsAt w v ss := by
  have hn : ss.length = n := by have := h.1; simpa using this
  rcases h.2 with ⟨rfl, h0⟩ | ⟨g, cap, cur, rfl, hb, hg, hnc, hcm, _⟩
  · exact .inl ⟨rfl, List.eq_nil_of_length_eq_zero (by omega)⟩
  · refine .inr ⟨g, 0, cap, by rw [hn], by omega, fun i hi => ?_, fun i hi => ?_⟩
    · rw [List.getD_eq_getElem?_getD, List.getElem?_eq_getElem hi]
      exact Nat.le_trans (flat_mem (List.getElem_mem hi)) hs
    · have := h.cells (g := g) rfl i (.string (ss.getD i ByteArray.empty)) (by
        rw [List.getElem?_map, List.getD_eq_getElem?_getD, List.getElem?_eq_getElem hi]; rfl)
      have e : (⟨g, 0, none⟩ : Addr).add i = ⟨g, 0 + i, none⟩ := by unfold Addr.add; split <;> simp_all
      rw [e] at this
      exact this
theorem sum_own {w : World} {base : Nat} {v : Value} {n : Nat} {ss : List ByteArray} {t : ByteArray} (h : w.ownsRow base 9 1 v n (ss.map Value.string)) (hf : flat ss = t.data.toList) (ht : t.size ≤ 100) :
    Calls Try.prog 23 #[v] w fun e w' => e = .returned (.int .u32 (crcN t.data.toList)) ∧ w = w' := by
  have hl : (flat ss).length ≤ maxLen := by rw [hf]; exact Nat.le_trans ht (by decide)
  have := sum_any v ss w (strs_own h hl)
  rw [hf] at this
  exact this
theorem sum_new (w : World) (t : ByteArray) (n : Nat) (ht : t.size ≤ 100) (hn : n = w.heap.size) :
    Calls Try.prog 23 #[.slice (some ⟨n, 0, none⟩) 1 1] (w.alloc (.cells #[.string t] 9)) fun e w' => e = .returned (.int .u32 (crcN t.data.toList)) ∧ w.alloc (.cells #[.string t] 9) = w' := by
  subst hn
  have := sum_any (.slice (some ⟨w.heap.size, 0, none⟩) 1 1) [t] (w.alloc (.cells #[.string t] 9)) (.inr ⟨w.heap.size, 0, 1, rfl, by simp [maxLen], fun i hi => by
    obtain rfl : i = 0 := by simpa using hi
    exact Nat.le_trans ht (by decide), fun i hi => by
    obtain rfl : i = 0 := by simpa using hi
    simp⟩)
  rw [flat_one] at this
  exact this
end Go.Proofs.Ytlafpdhjknpfbaa
