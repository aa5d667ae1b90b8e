/-
  The walks of octet's Reader: Read, Num, Text, Raw, Left, End.
-/
import Derived.Test.YtodajejjhfpdmaaDoorOctR
namespace Go.Proofs.YtodajejjhfpdmaaDoor
open Go.RowKit Go.Instr

theorem oEndStr {a b : ByteArray} (h : a = b) : Ending.returned (.string a) = .returned (.string b) := congrArg (fun n => Ending.returned (.string n)) h
def getN (l : List UInt8) : Nat := l.foldl (fun n b => 256 * n + b.toNat) 0
theorem getN_snoc (l : List UInt8) (b : UInt8) : getN (l ++ [b]) = 256 * getN l + b.toNat := by simp [getN]
theorem fold_lt (l : List UInt8) : ∀ a : Nat, l.foldl (fun n b => 256 * n + b.toNat) a < (a + 1) * 256 ^ l.length := by
  induction l with
  | nil => intro a; simp
  | cons b l ih =>
    intro a
    have h1 := ih (256 * a + b.toNat)
    have h2 := b.toNat_lt
    have h3 : (256 * a + b.toNat + 1) * 256 ^ l.length ≤ ((a + 1) * 256) * 256 ^ l.length := Nat.mul_le_mul_right _ (by omega)
    rw [List.foldl_cons, List.length_cons, Nat.pow_succ, Nat.mul_comm (256 ^ l.length) 256, ← Nat.mul_assoc]
    omega
theorem getN_lt (l : List UInt8) : getN l < 256 ^ l.length := by
  have := fold_lt l 0
  simpa [getN] using this
theorem o_take_snoc (s : ByteArray) (k : Nat) (h : k < s.size) : s.data.toList.take (k + 1) = s.data.toList.take k ++ [s[k]] := by
  rw [List.take_succ_eq_append_getElem (by simpa using h)]; rfl
set_option maxHeartbeats 400000 in
theorem read_any (s : ByteArray) (w : World) :
    Calls Tryd.prog 29 #[.string s] w fun en w' => en = .returned (.pointer (some ⟨w.heap.size, 0, none⟩)) ∧ w' = w.alloc (.cells #[.string s, .int .i64 0] 134) := by
  go_enter Tryd.func29, Tryd.ntmps29
  go_wp2
  go_ret
  exact ⟨rfl, rfl⟩
def endF (r : ByteArray) (f : Int) : Int := if f = 0 then if r.size = 0 then 0 else 3 else f
set_option maxHeartbeats 400000 in
theorem end_any (B : Nat) (r : ByteArray) (f : Int) (w : World) (h : ReaderAt w B r f) :
    Calls Tryd.prog 34 #[.pointer (some ⟨B, 0, none⟩)] w fun en w' => en = .returned (.int .i64 (endF r f)) ∧ w = w' := by
  have c0 := rd0 h
  have c1 := rd1 h
  clear h
  unfold endF
  by_cases hf : f = 0
  · subst hf
    rw [if_pos rfl]
    by_cases hr : r.size = 0
    · rw [if_pos hr]
      have he : r = ⟨#[]⟩ := by
        apply Go.WideShapes.bytes_inj
        exact List.eq_nil_of_length_eq_zero hr
      subst he
      go_enter Tryd.func34, Tryd.ntmps34
      go_wp2
      go_ret
      exact ⟨rfl, rfl⟩
    · rw [if_neg hr]
      have he1 : r.toList.isEmpty = false := by
        rw [ByteArray.toList_eq]
        cases hd : r.data.toList with
        | nil => exact absurd (by have := congrArg List.length hd; exact this) hr
        | cons a l => rfl
      go_enter Tryd.func34, Tryd.ntmps34
      go_wp2
      go_ret
      exact ⟨rfl, rfl⟩
  · rw [if_neg hf]
    have hb : (f == 0) = false := by simpa using hf
    clear hf
    go_enter Tryd.func34, Tryd.ntmps34
    go_wp2
    go_ret
    exact ⟨rfl, rfl⟩
set_option maxHeartbeats 400000 in
theorem end_nil (w : World) : Calls Tryd.prog 34 #[.pointer none] w fun en w' => en = .returned (.int .i64 1) ∧ w = w' := by
  go_enter Tryd.func34, Tryd.ntmps34
  go_wp2
  go_ret
  exact ⟨rfl, rfl⟩
def rawT (r : ByteArray) (f n : Int) : ByteArray := if n < 0 then ⟨#[]⟩ else takeT r f n.toNat
def rawR (r : ByteArray) (f n : Int) : ByteArray := if n < 0 then r else takeR r f n.toNat
def rawF (r : ByteArray) (f n : Int) : Int := if n < 0 then failF f 4 else takeF r f n.toNat
set_option maxHeartbeats 400000 in
theorem rraw_any (B : Nat) (r : ByteArray) (f n : Int) (w : World) (h : ReaderAt w B r f) (hr : r.size ≤ 1000000) :
    Calls Tryd.prog 80 #[.pointer (some ⟨B, 0, none⟩), .int .i64 n] w fun en w' => en = .returned (.string (rawT r f n)) ∧ ReaderAt w' B (rawR r f n) (rawF r f n) ∧ w.grownBy w' (some B) := by
  have HR := Lib.hid h
  clear h
  unfold rawT rawR rawF
  by_cases hn : n < 0
  · rw [if_pos hn, if_pos hn, if_pos hn]
    go_enter Tryd.func80, Tryd.ntmps80
    go_wp2_with (go_at_call 82; refine (fail_any _ _ _ _ _ HR.out).mono ?_; rintro en w1 ⟨rfl, hR, hG⟩)
    go_ret
    exact ⟨rfl, hR, hG⟩
  · rw [if_neg hn, if_neg hn, if_neg hn]
    obtain ⟨m, rfl⟩ := Int.eq_ofNat_of_zero_le (show 0 ≤ n by omega)
    rw [Int.toNat_natCast]
    go_enter Tryd.func80, Tryd.ntmps80
    go_wp2_with (go_at_call 83; refine (take_any _ _ _ _ _ HR.out hr).mono ?_; rintro en w1 ⟨rfl, hR, hG⟩)
    go_ret
    exact ⟨rfl, hR, hG⟩
set_option maxHeartbeats 400000 in
theorem rraw_nil (w : World) : Calls Tryd.prog 80 #[.pointer none, .int .i64 1] w fun en w' => en = .returned (.string ⟨#[]⟩) ∧ w = w' := by
  go_enter Tryd.func80, Tryd.ntmps80
  go_wp2_with (go_at_call 83; refine (take_nil _ _).mono ?_; rintro en w1 ⟨rfl, rfl⟩)
  go_ret
  exact ⟨rfl, rfl⟩

/-- Eight bits more: what Go's shift and or leave. -/
theorem shift_or {x b : Nat} (hx : x < 72057594037927936) (hb : b < 256) : bits BinOp.or IntKind.u64 (((x * 256 : Nat) : Int)) (b : Int) = ((256 * x + b : Nat) : Int) := by
  have h1 := u64_or_nat (x * 256) b (by omega) (by omega)
  have h2 : x * 256 ||| b = x * 256 + b := nat_join 8 (x * 256) b (by rw [show (2 : Nat) ^ 8 = 256 from rfl, Nat.mul_mod_left]) hb
  rw [h2, Nat.mul_comm x 256] at h1
  rw [Nat.mul_comm x 256]
  exact h1
def numN (r : ByteArray) (f z : Int) : Nat := if sizedB z = true then getN (takeT r f z.toNat).data.toList else 0
def numR (r : ByteArray) (f z : Int) : ByteArray := if sizedB z = true then takeR r f z.toNat else r
def numF (r : ByteArray) (f z : Int) : Int := if sizedB z = true then takeF r f z.toNat else failF f 4
theorem takeT_size (r : ByteArray) (f : Int) (n : Nat) : (takeT r f n).size ≤ n := by
  unfold takeT
  split
  · simp; omega
  · exact Nat.zero_le _
set_option maxHeartbeats 400000 in
theorem rnum_any (B : Nat) (r : ByteArray) (f z : Int) (w : World) (h : ReaderAt w B r f) (hr : r.size ≤ 1000000) :
    Calls Tryd.prog 75 #[.pointer (some ⟨B, 0, none⟩), .int .i64 z] w fun en w' => en = .returned (.int .u64 (numN r f z)) ∧ ReaderAt w' B (numR r f z) (numF r f z) ∧ w.grownBy w' (some B) := by
  have HR := Lib.hid h
  clear h
  unfold numN numR numF
  cases hz : sizedB z with
  | false =>
    rw [if_neg (by decide), if_neg (by decide), if_neg (by decide)]
    go_enter Tryd.func75, Tryd.ntmps75
    go_wp2_with (first | (go_at_call 72; refine (sized_any _ _).mono ?_; rintro e w' ⟨rfl, rfl⟩) | (go_at_call 82; refine (fail_any _ _ _ _ _ HR.out).mono ?_; rintro en w1 ⟨rfl, hR, hG⟩))
    go_ret
    exact ⟨rfl, hR, hG⟩
  | true =>
    rw [if_pos rfl, if_pos rfl, if_pos rfl]
    have hz2 : 1 ≤ z ∧ z ≤ 8 := by simpa [sizedB] using hz
    obtain ⟨m, rfl⟩ := Int.eq_ofNat_of_zero_le (show 0 ≤ z by omega)
    rw [Int.toNat_natCast]
    go_enter Tryd.func75, Tryd.ntmps75
    go_wp2_with (first | (go_at_call 72; refine (sized_any _ _).mono ?_; rintro e w' ⟨rfl, rfl⟩) | (go_at_call 83; refine (take_any _ _ _ _ _ HR.out hr).mono ?_; rintro en w1 ⟨rfl, hR, hG⟩))
    have HR1 := Lib.hid hR
    have HG1 := Lib.hid hG
    have hts : (takeT r f m).size ≤ 8 := by have := takeT_size r f m; omega
    clear hR hG hz
    obtain ⟨t, ht⟩ : ∃ t, t = takeT r f m := ⟨_, rfl⟩
    rw [← ht] at hts ⊢
    have HT := Lib.hid ht
    clear ht
    go_loop [6, 18] (fun a i => ∃ k : Nat, k ≤ t.size ∧ i = .int .i64 k ∧ a = .int .u64 (getN (t.data.toList.take k) : Nat)) (fun _ i => (t.size - (intOf i).toNat))
    case atStart => exact ⟨0, by omega, rfl, rfl⟩
    case round =>
      obtain ⟨k, hk, rfl, rfl⟩ := hrel
      obtain ⟨x, hx⟩ : ∃ x, x = getN (t.data.toList.take k) := ⟨_, rfl⟩
      rw [← hx]
      by_cases hlt : k < t.size
      · have hxl : x < 72057594037927936 := by
          have h1 := getN_lt (t.data.toList.take k)
          have h2 : (t.data.toList.take k).length ≤ 7 := Nat.le_trans (List.length_take_le _ _) (by omega)
          rw [hx]
          exact Nat.lt_of_lt_of_le h1 (Nat.le_trans (Nat.pow_le_pow_right (by decide) h2) (by decide))
        have hbl := t[k].toNat_lt
        have hnx : getN (t.data.toList.take (k + 1)) = 256 * x + t[k].toNat := by rw [o_take_snoc t k hlt, getN_snoc, hx]
        have HX := Lib.hid hx
        have HNX := Lib.hid hnx
        have hso := shift_or hxl hbl
        clear hx hnx
        rw [Int.natCast_mul] at hso
        have HSO := Lib.hid hso
        clear hso
        go_wp2
        go_round
        case rel => exact ⟨k + 1, by omega, by go_num, by rw [HNX.out]; exact congrArg (Value.int IntKind.u64) HSO.out⟩
        case measure => simp [intOf]; omega
      · have hend : getN t.data.toList = x := by rw [hx, List.take_of_length_le (by simp; omega)]
        have HE := Lib.hid hend
        clear hend hx
        go_wp2
        go_ret
        exact ⟨oEndInt (by rw [← HT.out, HE.out]), HR1.out, HG1.out⟩

set_option maxHeartbeats 400000 in
theorem rnum_nil (w : World) : Calls Tryd.prog 75 #[.pointer none, .int .i64 1] w fun en w' => en = .returned (.int .u64 0) ∧ w = w' := by
  have hz : sizedB 1 = true := by decide
  go_enter Tryd.func75, Tryd.ntmps75
  go_wp2_with (first | (go_at_call 72; refine (sized_any _ _).mono ?_; rintro e w' ⟨rfl, rfl⟩) | (go_at_call 83; refine (take_nil _ _).mono ?_; rintro en w1 ⟨rfl, rfl⟩))
  go_rounds 1
  go_ret
  exact ⟨rfl, rfl⟩
/-- How many bytes a text's length and bytes are; what is decoded of them. -/
def textN (r : ByteArray) : Nat := 1 + (r.data.toList.getD 0 0).toNat
def tailT (t : ByteArray) : ByteArray := if t.size = 0 then ⟨#[]⟩ else t.extract 1 t.size
theorem isEmpty_of (t : ByteArray) (h : t.size ≠ 0) : t.toList.isEmpty = false := by
  rw [ByteArray.toList_eq]
  cases hd : t.data.toList with
  | nil => exact absurd (by have := congrArg List.length hd; exact this) h
  | cons a l => rfl
theorem empty_of (t : ByteArray) (h : t.size = 0) : t = ⟨#[]⟩ := by
  apply Go.WideShapes.bytes_inj
  exact List.eq_nil_of_length_eq_zero h
theorem take_is (B : Nat) (r : ByteArray) (f : Int) (n m : Nat) (t : ByteArray) (w : World) (h : ReaderAt w B r f) (hr : r.size ≤ 1000000) (hm : m = n) (ht : t = takeT r f n) :
    Calls Tryd.prog 83 #[.pointer (some ⟨B, 0, none⟩), .int .i64 m] w fun en w' => en = .returned (.string t) ∧ ReaderAt w' B (takeR r f n) (takeF r f n) ∧ w.grownBy w' (some B) := by
  subst hm
  subst ht
  exact take_any B r f m w h hr
set_option maxHeartbeats 400000 in
theorem rtext_any (B : Nat) (r : ByteArray) (f : Int) (w : World) (h : ReaderAt w B r f) (hr : r.size ≤ 1000000) :
    Calls Tryd.prog 78 #[.pointer (some ⟨B, 0, none⟩)] w fun en w' => en = .returned (.string (tailT (takeT r f (textN r)))) ∧ ReaderAt w' B (takeR r f (textN r)) (takeF r f (textN r)) ∧ w.grownBy w' (some B) := by
  have c0 := rd0 h
  have HR := Lib.hid h
  clear h
  obtain ⟨t, ht⟩ : ∃ t, t = takeT r f (textN r) := ⟨_, rfl⟩
  rw [← ht]
  have HT := Lib.hid ht
  clear ht
  have htt : (t = ⟨#[]⟩ ∧ tailT t = ⟨#[]⟩) ∨ (t.toList.isEmpty = false ∧ 1 ≤ t.size ∧ tailT t = t.extract 1 t.size) := by
    by_cases h0 : t.size = 0
    · exact .inl ⟨empty_of t h0, if_pos h0⟩
    · exact .inr ⟨isEmpty_of t h0, by omega, if_neg h0⟩
  by_cases hr0 : r.size = 0
  · have he := empty_of r hr0
    have HN : Hid (1 = textN r) := by rw [he]; rfl
    subst he
    clear hr0
    rcases htt with ⟨rfl, hta⟩ | ⟨ht1, ht2, hta⟩
    all_goals
      have HTA := Lib.hid hta
      clear hta
      go_enter Tryd.func78, Tryd.ntmps78
      go_wp2_with (go_at_call 83; refine (take_is _ _ _ _ 1 _ _ HR.out hr HN.out HT.out).mono ?_; rintro en w1 ⟨rfl, hR, hG⟩)
      go_ret
      exact ⟨oEndStr HTA.out.symm, hR, hG⟩
  · have he1 := isEmpty_of r hr0
    have hlt : 0 < r.size := by omega
    have hb := r[0].toNat_lt
    have HN : Hid (1 + r[0].toNat = textN r) := by
      unfold textN
      rw [List.getD_eq_getElem?_getD, List.getElem?_eq_getElem (by simpa using hlt)]
      rfl
    clear hr0
    rcases htt with ⟨rfl, hta⟩ | ⟨ht1, ht2, hta⟩
    all_goals
      have HTA := Lib.hid hta
      clear hta
      go_enter Tryd.func78, Tryd.ntmps78
      go_wp2_with (go_at_call 83; refine (take_is _ _ _ _ (1 + r[0].toNat) _ _ HR.out hr HN.out HT.out).mono ?_; rintro en w1 ⟨rfl, hR, hG⟩)
      go_ret
      exact ⟨oEndStr HTA.out.symm, hR, hG⟩
set_option maxHeartbeats 400000 in
theorem rtext_nil (w : World) : Calls Tryd.prog 78 #[.pointer none] w fun en w' => en = .returned (.string ⟨#[]⟩) ∧ w = w' := by
  go_enter Tryd.func78, Tryd.ntmps78
  go_wp2_with (go_at_call 83; refine (take_nil _ _).mono ?_; rintro en w1 ⟨rfl, rfl⟩)
  go_ret
  exact ⟨rfl, rfl⟩
end Go.Proofs.YtodajejjhfpdmaaDoor
