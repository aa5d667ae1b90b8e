/-
  The walks of journal's encode and first, and of strings.CutPrefix.
-/
import Derived.Test.YtobmfbafjpbkoaaJrnM
import Derived.Test.YtobmfbafjpbkoaaOctC
import Derived.Test.YtobmfbafjpbkoaaOctT
import Derived.Test.YtobmfbafjpbkoaaOctG
namespace Go.Proofs.Ytobmfbafjpbkoaa
open Go.RowKit Go.Instr

theorem below_grown {W w w' : World} {B : Nat} (h : Below W.heap.size W w) (hg : w.grownBy w' (some B)) (hB : W.heap.size ≤ B) : Below W.heap.size W w' :=
  h.grown hg h.size (fun k hk => by cases hk; exact hB)
def encL (x : ByteArray) : List PartV := [⟨1, x.size, 2, ⟨#[]⟩⟩, ⟨3, 0, 0, x⟩]
theorem encE (x : ByteArray) (h : x.size ≤ 2000) : joinE (encL x) = 0 := by
  have h1 : fitsB x.size 2 = true := by unfold fitsB; simp; omega
  have c1 : chk ⟨1, x.size, 2, ⟨#[]⟩⟩ = 0 := by
    unfold chk
    have h2 : sizedB 2 = true := by decide
    simp [h1, h2]
  have c2 : chk ⟨3, 0, 0, x⟩ = 0 := by unfold chk; simp
  show joinE ([⟨1, x.size, 2, ⟨#[]⟩⟩] ++ [⟨3, 0, 0, x⟩]) = 0
  rw [joinE_snoc, c2]
  show joinE ([] ++ [⟨1, x.size, 2, ⟨#[]⟩⟩]) = 0
  rw [joinE_snoc rfl, c1]
theorem encS (x : ByteArray) (h : x.size ≤ 2000) : joinS (encL x) = body x := by
  unfold joinS
  rw [if_pos (encE x h)]
  apply bext
  rw [body, bapp]
  simp [encL, encs, enc]
theorem enc_join (x : ByteArray) (n : Nat) (w : World) (hx : x.size ≤ 2000) (hn : n = w.heap.size) : Calls Try.prog 39 #[.slice (some ⟨n, 0, none⟩) 2 2] (w.alloc (.cells #[.int .i64 1, .int .u64 x.size, .int .i64 2, .string ⟨#[]⟩, .int .i64 3, .int .u64 0, .int .i64 0, .string x] 76)) fun e w' => e = .returned (.tuple #[.string (body x), .int .i64 0]) ∧ Below w.heap.size w w' := by
  subst hn
  refine (join_any _ (encL x) _ (show 2 ≤ 20 by decide) ?_ (.inr ⟨w.heap.size, 0, 2, rfl, ?_⟩)).mono fun _ _ ⟨h1, h2⟩ => ⟨h1.trans (oEnd2 (encS x hx) (encE x hx)), ((Below.refl _ _).alloc (Nat.le_refl _) _).trans (h2.mono (by simp))⟩
  · intro p hp
    simp only [encL, List.mem_cons, List.not_mem_nil, or_false] at hp
    rcases hp with rfl | rfl
    · exact ⟨⟨show (0 : Int) ≤ 1 by decide, show (1 : Int) ≤ 3 by decide⟩, by show (⟨#[]⟩ : ByteArray).size ≤ 2000; decide⟩
    · exact ⟨⟨show (0 : Int) ≤ 3 by decide, show (3 : Int) ≤ 3 by decide⟩, hx⟩
  · intro i h
    match i, h with
    | 0, _ => simp [encL]
    | 1, _ => simp [encL]
theorem num_part (n : Nat) (z : Int) (w : World) : Calls Try.prog 40 #[.int .u64 n, .int .i64 z] w fun e w' => e = .returned (.agg #[.int .i64 1, .int .u64 n, .int .i64 z, .string ⟨#[]⟩]) ∧ Below w.heap.size w w' := num_any n z w
set_option maxHeartbeats 400000 in
theorem raw_part (s : ByteArray) (w : World) : Calls Try.prog 41 #[.string s] w fun e w' => e = .returned (.agg #[.int .i64 3, .int .u64 0, .int .i64 0, .string s]) ∧ Below w.heap.size w w' := by
  go_enter Try.func41, Try.ntmps41
  go_wp2
  exact bodyPost_ret (v := (PartV.mk 3 0 0 s).val) (by simp [results, Try.results41, go_sem]; rfl) rfl ⟨rfl, (Below.refl _ _).alloc (Nat.le_refl _) _⟩
theorem body_size (x : ByteArray) : (body x).size = x.size + 2 := by
  rw [body, ByteArray.size_append]
  have : (⟨(beN x.size 2).toArray⟩ : ByteArray).size = 2 := by
    show (beN x.size 2).toArray.size = 2
    simp [beN_len]
  omega
set_option maxHeartbeats 400000 in
theorem encode_fr (x : ByteArray) (w : World) (hx : x.size ≤ 2000) : Calls Try.prog 36 #[.string x] w fun e w' => e = .returned (.string (fr x)) ∧ Below w.heap.size w w' := by
  go_enter Try.func36, Try.ntmps36
  go_wp2_with (first
    | (go_at_call 40; (refine (num_part x.size 2 _).mono ?_); rintro e w1 ⟨rfl, hB1⟩; have HB1 := Lib.hid hB1; clear hB1)
    | (go_at_call 41; (refine (raw_part x _).mono ?_); rintro e w2 ⟨rfl, hB2⟩; have HB2 := Lib.hid (m_below_on HB1.out hB2); clear hB2)
    | (go_at_call 39; (refine (enc_join x _ _ hx rfl).mono ?_); rintro e w3 ⟨rfl, hB3⟩; have HB3 := Lib.hid (m_below_on HB2.out hB3); clear hB3)
    | (go_at_call 42; (refine (Seal_any (body x) _ (by rw [body_size]; omega)).mono ?_); rintro e w4 ⟨rfl, hB4⟩; have HB4 := Lib.hid (m_below_on HB3.out hB4); clear hB4))
  go_ret
  exact ⟨rfl, HB4.out⟩
set_option maxHeartbeats 400000 in
theorem prefix_yes (p a : ByteArray) (w : World) (hs : p.size + a.size ≤ maxLen) : Calls Try.prog 57 #[.string (p ++ a), .string p] w fun e w' => e = .returned (.bool true) ∧ w = w' := by
  unfold maxLen at hs
  obtain ⟨s, hS⟩ : ∃ s, s = p ++ a := ⟨_, rfl⟩
  have hz : s.size = p.size + a.size := by rw [hS, ByteArray.size_append]
  have he : s.extract 0 p.size = p := by rw [hS]; exact ext_head p a
  have hge : p.size ≤ s.size := by omega
  rw [← hS]
  have hb : ((s.extract 0 p.size).toList == p.toList) = true := by rw [he]; simp
  clear hS hz he
  go_enter Try.func57, Try.ntmps57
  go_wp2
  go_ret
  exact ⟨rfl, rfl⟩
set_option maxHeartbeats 400000 in
theorem prefix_no (s p : ByteArray) (w : World) (hs : s.size ≤ maxLen) (hp : p.size ≤ maxLen) (h : ¬ ∃ a, s = p ++ a) : Calls Try.prog 57 #[.string s, .string p] w fun e w' => e = .returned (.bool false) ∧ w = w' := by
  unfold maxLen at hs hp
  by_cases hge : p.size ≤ s.size
  · have hb : ((s.extract 0 p.size).toList == p.toList) = false := by
      rw [beq_bytes]
      refine decide_eq_false (fun e => h ⟨s.extract p.size s.size, ?_⟩)
      apply bext
      rw [bapp, ← e, Lib.extract_data, Lib.extract_data]
      simp only [List.drop_zero, Nat.sub_zero, ByteArray.size_extract]
      have e2 : min p.size s.size = p.size := by omega
      rw [e2]
      rw [List.take_of_length_le (l := s.data.toList.drop p.size) (by rw [List.length_drop]; exact Nat.le_refl _), List.take_append_drop]
    have HH := Lib.hid h
    clear h
    go_enter Try.func57, Try.ntmps57
    go_wp2
    go_ret
    exact ⟨rfl, rfl⟩
  · have hd : decide (p.size ≤ s.size) = false := by simpa using hge
    clear h
    go_enter Try.func57, Try.ntmps57
    go_wp2
    go_ret
    exact ⟨rfl, rfl⟩
theorem cut_end {a b : ByteArray} (h : a = b) : Ending.returned (.tuple #[.string a, .bool true]) = .returned (.tuple #[.string b, .bool true]) := by rw [h]
theorem cut_yes (p a : ByteArray) (w : World) (hs : p.size + a.size ≤ maxLen) : Calls Try.prog 47 #[.string (p ++ a), .string p] w fun e w' => e = .returned (.tuple #[.string a, .bool true]) ∧ w = w' := by
  obtain ⟨s, hS⟩ : ∃ s, s = p ++ a := ⟨_, rfl⟩
  have hz : s.size = p.size + a.size := by rw [hS, ByteArray.size_append]
  have he : s.extract p.size s.size = a := by rw [hS]; exact ext_tail p a
  have hge : p.size ≤ s.size := by omega
  have HP := fun w => prefix_yes p a w hs
  rw [← hS] at HP ⊢
  have HPH := Lib.hid HP
  unfold maxLen at hs
  have HE := Lib.hid he
  clear hS hz HP he
  have h54 : ∀ w, Calls Try.prog 54 #[.string s, .string p] w fun e w' => e = .returned (.tuple #[.string a, .bool true]) ∧ w = w' := by
    intro w
    go_enter Try.func54, Try.ntmps54
    go_wp2_with ((refine (HPH.out _).mono ?_); rintro e w1 ⟨rfl, rfl⟩)
    go_ret2
    exact ⟨cut_end HE.out, rfl⟩
  have H54 := Lib.hid h54
  clear h54
  go_enter Try.func47, Try.ntmps47
  go_wp2_with ((refine (H54.out _).mono ?_); rintro e w1 ⟨rfl, rfl⟩)
  go_ret2
  exact ⟨rfl, rfl⟩
theorem cut_no (s p : ByteArray) (w : World) (hs : s.size ≤ maxLen) (hp : p.size ≤ maxLen) (h : ¬ ∃ a, s = p ++ a) : Calls Try.prog 47 #[.string s, .string p] w fun e w' => e = .returned (.tuple #[.string s, .bool false]) ∧ w = w' := by
  have HPH := Lib.hid (fun w => prefix_no s p w hs hp h)
  unfold maxLen at hs hp
  clear h
  have h54 : ∀ w, Calls Try.prog 54 #[.string s, .string p] w fun e w' => e = .returned (.tuple #[.string s, .bool false]) ∧ w = w' := by
    intro w
    go_enter Try.func54, Try.ntmps54
    go_wp2_with ((refine (HPH.out _).mono ?_); rintro e w1 ⟨rfl, rfl⟩)
    go_ret2
    exact ⟨rfl, rfl⟩
  have H54 := Lib.hid h54
  clear h54
  go_enter Try.func47, Try.ntmps47
  go_wp2_with ((refine (H54.out _).mono ?_); rintro e w1 ⟨rfl, rfl⟩)
  go_ret2
  exact ⟨rfl, rfl⟩
end Go.Proofs.Ytobmfbafjpbkoaa
