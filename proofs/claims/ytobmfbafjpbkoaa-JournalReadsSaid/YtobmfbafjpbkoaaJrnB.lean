/-
  The walks of journal's first and decode: the records with which a text begins.
-/
import Derived.Test.YtobmfbafjpbkoaaJrnA
import Derived.Test.YtobmfbafjpbkoaaLastsA
import Derived.Deep.LoopGhost
namespace Go.Proofs.Ytobmfbafjpbkoaa
open Go.RowKit Go.Instr

theorem Try.info9 : (Try.prog.info? 9).map (fun i => (i.zero, i.size, i.bytes)) = some (some (.string ByteArray.empty), 1, 16) := by kernel_rfl
/-- The text that stands where the first record would. -/
def recT (s : ByteArray) : ByteArray := rawT (numR s 0 2) (numF s 0 2) (numN s 0 2)
theorem numN_lt (s : ByteArray) : numN s 0 2 < 65536 := by
  unfold numN
  split
  · have h1 := getN_lt (takeT s 0 (Int.toNat 2)).data.toList
    have h2 : (takeT s 0 (Int.toNat 2)).data.toList.length ≤ 2 := takeT_size s 0 2
    exact Nat.lt_of_lt_of_le h1 (Nat.le_trans (Nat.pow_le_pow_right (by decide) h2) (by decide))
  · decide
theorem recT_size (s : ByteArray) : (recT s).size < 65536 := by
  unfold recT rawT
  split
  · decide
  · have := takeT_size (numR s 0 2) (numF s 0 2) (Int.toNat (numN s 0 2))
    have := numN_lt s
    omega
theorem getN_be2 (n : Nat) (h : n < 65536) : getN (beN n 2) = n := by
  simp only [beN, List.range, List.range.loop, List.map_cons, List.map_nil, getN, List.foldl]
  simp
  omega
theorem ext_mid (x y z : ByteArray) : (x ++ (y ++ z)).extract x.size (x ++ (y ++ z)).size = y ++ z := ext_tail x (y ++ z)
theorem recT_yes {s x a : ByteArray} (hs : s = fr x ++ a) (hx : x.size < 65536) : recT s = x := by
  have h2 : (⟨(beN x.size 2).toArray⟩ : ByteArray).size = 2 := by
    show (beN x.size 2).toArray.size = 2
    simp [beN_len]
  obtain ⟨b2, hb2⟩ : ∃ b2 : ByteArray, b2 = ⟨(beN x.size 2).toArray⟩ := ⟨_, rfl⟩
  have hb2l : b2.data.toList = beN x.size 2 := by rw [hb2]
  rw [← hb2] at h2
  have e1 : s = b2 ++ (x ++ (sealB (body x) ++ a)) := by rw [hs, fr, body, ← hb2]; apply bext; simp [bapp]
  have hz : s.size = 2 + (x.size + (sealB (body x) ++ a).size) := by rw [e1, ByteArray.size_append, ByteArray.size_append, h2]
  have hsz : sizedB 2 = true := by decide
  have hle : (0 : Int) = 0 ∧ Int.toNat 2 ≤ s.size := ⟨rfl, by show 2 ≤ s.size; omega⟩
  have eT : takeT s 0 (Int.toNat 2) = b2 := by
    unfold takeT; rw [if_pos hle, e1]
    show (b2 ++ _).extract 0 2 = b2
    have := ext_head b2 (x ++ (sealB (body x) ++ a))
    rw [h2] at this
    exact this
  have eN : numN s 0 2 = x.size := by unfold numN; rw [if_pos hsz, eT, hb2l, getN_be2 _ hx]
  have eR : numR s 0 2 = x ++ (sealB (body x) ++ a) := by
    unfold numR takeR; rw [if_pos hsz, if_pos hle, e1]
    have := ext_tail b2 (x ++ (sealB (body x) ++ a))
    rw [h2] at this
    exact this
  have eF : numF s 0 2 = 0 := by unfold numF takeF; rw [if_pos hsz, if_pos rfl, if_pos hle.2]
  unfold recT rawT
  rw [eN, eR, eF, if_neg (by omega), Int.toNat_natCast]
  unfold takeT
  rw [if_pos ⟨rfl, by rw [ByteArray.size_append]; omega⟩]
  exact ext_head x _
theorem read_at (s : ByteArray) (w : World) : Calls Try.prog 44 #[.string s] w fun en w' => en = .returned (.pointer (some ⟨w.heap.size, 0, none⟩)) ∧ ReaderAt w' w.heap.size s 0 ∧ Below w.heap.size w w' :=
  (read_any s w).mono fun e w' ⟨h1, h2⟩ => by
    subst h2
    exact ⟨h1, heap_alloc_new _ _, by go_grown⟩
theorem num2_any (R : Nat) (s : ByteArray) (w : World) (h : ReaderAt w R s 0) (hr : s.size ≤ 1000000) (n : Nat) (hn : numN s 0 2 = n) :
    Calls Try.prog 46 #[.pointer (some ⟨R, 0, none⟩), .int .i64 2] w fun en w' => en = .returned (.int .u64 n) ∧ ReaderAt w' R (numR s 0 2) (numF s 0 2) ∧ w.grownBy w' (some R) := by
  subst hn; exact rnum_any R s 0 2 w h hr
theorem numR_size (s : ByteArray) (hr : s.size ≤ 1000000) : (numR s 0 2).size ≤ 1000000 := by
  unfold numR takeR
  split
  · split
    · simp; omega
    · exact hr
  · exact hr
theorem rec_any (R : Nat) (s : ByteArray) (w : World) (hr : s.size ≤ 1000000) (h : ReaderAt w R (numR s 0 2) (numF s 0 2)) (n : Nat) (hn : numN s 0 2 = n) (x : ByteArray) (hx : recT s = x) :
    Calls Try.prog 45 #[.pointer (some ⟨R, 0, none⟩), .int .i64 n] w fun en w' => en = .returned (.string x) ∧ w.grownBy w' (some R) := by
  subst hn; subst hx
  exact (rraw_any R _ _ _ w h (numR_size s hr)).mono fun e w' ⟨h1, _, h3⟩ => ⟨h1, h3⟩
def NoRec (w : World) (e : Ending) (w' : World) : Prop := ∃ y z : ByteArray, e = .returned (.tuple #[.string y, .string z, .bool false]) ∧ Below w.heap.size w w'
set_option maxHeartbeats 1000000 in
theorem first_no (s : ByteArray) (w : World) (hs : s.size ≤ 900000) (h : ¬ Begins s) : Calls Try.prog 38 #[.string s] w (NoRec w) := by
  obtain ⟨x, hx⟩ : ∃ x, recT s = x := ⟨_, rfl⟩
  obtain ⟨n, hn⟩ : ∃ n, numN s 0 2 = n := ⟨_, rfl⟩
  have hn2 : n < 65536 := by rw [← hn]; exact numN_lt s
  have hxs : x.size < 65536 := by rw [← hx]; exact recT_size s
  have HX := Lib.hid hx
  have HN := Lib.hid hn
  have HH := Lib.hid h
  clear hx hn h
  have hcase : x.size = 0 ∨ 512 < x.size ∨ (1 ≤ x.size ∧ x.size ≤ 512) := by omega
  rcases hcase with h0 | h0 | ⟨h0, h1⟩
  · obtain rfl : x = ⟨#[]⟩ := empty_of x h0
    go_enter Try.func38, Try.ntmps38
    go_wp2_with (first
      | (go_at_call 44; (refine (read_at s _).mono ?_); rintro e w1 ⟨rfl, hR1, hB1⟩; have HR1 := Lib.hid hR1; have HB1 := Lib.hid hB1; clear hR1 hB1)
      | (go_at_call 46; (refine (num2_any _ s _ HR1.out (by omega) n HN.out).mono ?_); rintro e w2 ⟨rfl, hR2, hG2⟩; have HR2 := Lib.hid hR2; have HB2 := Lib.hid (below_grown HB1.out hG2 (Nat.le_refl _)); clear hR2 hG2)
      | (go_at_call 45; (refine (rec_any _ s _ (by omega) HR2.out n HN.out ⟨#[]⟩ HX.out).mono ?_); rintro e w3 ⟨rfl, hG3⟩; have HB3 := Lib.hid (below_grown HB2.out hG3 (Nat.le_refl _)); clear hG3))
    exact bodyPost_ret (v := .tuple #[.string ⟨#[]⟩, .string ⟨#[]⟩, .bool false]) (by simp [results, Try.results38, go_sem]) rfl ⟨_, _, rfl, HB3.out⟩
  · have he : x.toList.isEmpty = false := isEmpty_of x (by omega)
    have he2 : (x.toList == []) = false := by
      rw [beq_eq_false_iff_ne]; intro e; rw [e] at he; simp at he
    go_enter Try.func38, Try.ntmps38
    go_wp2_with (first
      | (go_at_call 44; (refine (read_at s _).mono ?_); rintro e w1 ⟨rfl, hR1, hB1⟩; have HR1 := Lib.hid hR1; have HB1 := Lib.hid hB1; clear hR1 hB1)
      | (go_at_call 46; (refine (num2_any _ s _ HR1.out (by omega) n HN.out).mono ?_); rintro e w2 ⟨rfl, hR2, hG2⟩; have HR2 := Lib.hid hR2; have HB2 := Lib.hid (below_grown HB1.out hG2 (Nat.le_refl _)); clear hR2 hG2)
      | (go_at_call 45; (refine (rec_any _ s _ (by omega) HR2.out n HN.out x HX.out).mono ?_); rintro e w3 ⟨rfl, hG3⟩; have HB3 := Lib.hid (below_grown HB2.out hG3 (Nat.le_refl _)); clear hG3))
    exact bodyPost_ret (v := .tuple #[.string ⟨#[]⟩, .string ⟨#[]⟩, .bool false]) (by simp [results, Try.results38, go_sem]) rfl ⟨_, _, rfl, HB3.out⟩
  · have he : x.toList.isEmpty = false := isEmpty_of x (by omega)
    have he2 : (x.toList == []) = false := by
      rw [beq_eq_false_iff_ne]; intro e; rw [e] at he; simp at he
    have HNP : Hid (¬ ∃ a, s = fr x ++ a) := Lib.hid (fun ⟨a, e⟩ => HH.out ⟨x, a, ⟨h0, h1⟩, e⟩)
    have hfs : (fr x).size ≤ maxLen := by rw [fr_size]; unfold maxLen; omega
    have hss : s.size ≤ maxLen := by unfold maxLen; omega
    have HFS := Lib.hid hfs
    have HSS := Lib.hid hss
    have hd : decide (512 < x.size) = false := by simp; omega
    have hd2 : decide (512 < (x.size : Int)) = false := by simp; omega
    clear hfs hss
    go_enter Try.func38, Try.ntmps38
    go_wp2_with (first
      | (go_at_call 44; (refine (read_at s _).mono ?_); rintro e w1 ⟨rfl, hR1, hB1⟩; have HR1 := Lib.hid hR1; have HB1 := Lib.hid hB1; clear hR1 hB1)
      | (go_at_call 46; (refine (num2_any _ s _ HR1.out (by omega) n HN.out).mono ?_); rintro e w2 ⟨rfl, hR2, hG2⟩; have HR2 := Lib.hid hR2; have HB2 := Lib.hid (below_grown HB1.out hG2 (Nat.le_refl _)); clear hR2 hG2)
      | (go_at_call 45; (refine (rec_any _ s _ (by omega) HR2.out n HN.out x HX.out).mono ?_); rintro e w3 ⟨rfl, hG3⟩; have HB3 := Lib.hid (below_grown HB2.out hG3 (Nat.le_refl _)); clear hG3)
      | (go_at_call 36; (refine (encode_fr x _ (by omega)).mono ?_); rintro e w4 ⟨rfl, hB4⟩; have HB4 := Lib.hid (m_below_on HB3.out hB4); clear hB4)
      | (go_at_call 47; (refine (cut_no s (fr x) _ HSS.out HFS.out HNP.out).mono ?_); rintro e w5 ⟨rfl, rfl⟩))
    exact bodyPost_ret (v := .tuple #[.string x, .string s, .bool false]) (by simp [results, Try.results38, go_sem]) rfl ⟨_, _, rfl, HB4.out⟩
set_option maxHeartbeats 1000000 in
theorem first_yes (x a : ByteArray) (w : World) (hs : (fr x ++ a).size ≤ 900000) (hx : okR x) : Calls Try.prog 38 #[.string (fr x ++ a)] w fun e w' => e = .returned (.tuple #[.string x, .string a, .bool true]) ∧ Below w.heap.size w w' := by
  obtain ⟨h0, h1⟩ := hx
  have hct : (fr x).size + a.size ≤ maxLen := by rw [ByteArray.size_append] at hs; unfold maxLen; omega
  have HCT := Lib.hid (fun w => cut_yes (fr x) a w hct)
  have HX := Lib.hid (recT_yes (s := fr x ++ a) rfl (show x.size < 65536 by omega))
  obtain ⟨s, hS⟩ : ∃ s, s = fr x ++ a := ⟨_, rfl⟩
  rw [← hS] at HCT HX hs ⊢
  obtain ⟨n, hn⟩ : ∃ n, numN s 0 2 = n := ⟨_, rfl⟩
  have hn2 : n < 65536 := by rw [← hn]; exact numN_lt s
  have HN := Lib.hid hn
  have he : x.toList.isEmpty = false := isEmpty_of x (by omega)
  have he2 : (x.toList == []) = false := by
    rw [beq_eq_false_iff_ne]; intro e; rw [e] at he; simp at he
  have hd : decide (512 < x.size) = false := by simp; omega
  have hd2 : decide (512 < (x.size : Int)) = false := by simp; omega
  clear hS hn hct
  go_enter Try.func38, Try.ntmps38
  go_wp2_with (first
    | (go_at_call 44; (refine (read_at s _).mono ?_); rintro e w1 ⟨rfl, hR1, hB1⟩; have HR1 := Lib.hid hR1; have HB1 := Lib.hid hB1; clear hR1 hB1)
    | (go_at_call 46; (refine (num2_any _ s _ HR1.out (by omega) n HN.out).mono ?_); rintro e w2 ⟨rfl, hR2, hG2⟩; have HR2 := Lib.hid hR2; have HB2 := Lib.hid (below_grown HB1.out hG2 (Nat.le_refl _)); clear hR2 hG2)
    | (go_at_call 45; (refine (rec_any _ s _ (by omega) HR2.out n HN.out x HX.out).mono ?_); rintro e w3 ⟨rfl, hG3⟩; have HB3 := Lib.hid (below_grown HB2.out hG3 (Nat.le_refl _)); clear hG3)
    | (go_at_call 36; (refine (encode_fr x _ (by omega)).mono ?_); rintro e w4 ⟨rfl, hB4⟩; have HB4 := Lib.hid (m_below_on HB3.out hB4); clear hB4)
    | (go_at_call 47; (refine (HCT.out _).mono ?_); rintro e w5 ⟨rfl, rfl⟩))
  exact bodyPost_ret (v := .tuple #[.string x, .string a, .bool true]) (by simp [results, Try.results38, go_sem]) rfl ⟨rfl, HB4.out⟩
theorem one_str (x : ByteArray) : ∀ u ∈ ([Value.string x] : List Value), u.oneCell' = true := by
  intro u hu
  simp only [List.mem_cons, List.not_mem_nil, or_false] at hu
  subst hu; rfl
theorem cell_one (w : World) (x : Value) (T : TypeId) (n : Nat) (hn : n = w.heap.size) : ∀ j u, ([x] : List Value)[j]? = some u → (w.alloc (.cells #[x] T)).cell? ((⟨n, 0, none⟩ : Addr).add j) = some u := by
  subst hn
  intro j u h
  match j, h with
  | 0, h =>
    simp only [List.getElem?_cons_zero, Option.some.injEq] at h
    subst h
    have e : (⟨w.heap.size, 0, none⟩ : Addr).add 0 = ⟨w.heap.size, 0, none⟩ := by unfold Addr.add; split <;> simp_all
    rw [e]
    exact cell_of_row _ _ 0 _ _ (0, 0) (heap_alloc_new w _)
def DecP (w : World) (s : ByteArray) (e : Ending) (w' : World) : Prop := ∃ v l r, e = .returned (.tuple #[v, .string r]) ∧ strR.Own 9 w' w.heap.size v l ∧ IsRecs s l r ∧ Below w.heap.size w w'
def DecLoop (w : World) (s : ByteArray) (g : Nat) (s0 s2 : Value) (wr : World) : Prop := ∃ l r, s0 = .string r ∧ g = r.size ∧ strR.Own 9 wr w.heap.size s2 l ∧ s = frs l ++ r ∧ (∀ x ∈ l, okR x) ∧ l.length ≤ s.size ∧ l.length * 7 + r.size ≤ s.size ∧ Below w.heap.size w wr
set_option maxHeartbeats 2000000 in
theorem decode_any (s : ByteArray) (w : World) (hs : s.size ≤ 900000) : Calls Try.prog 33 #[.string s] w (DecP w s) := by
  obtain ⟨i0, hi, hz0, hz1, hz2⟩ := info_parts Try.info9
  have HI := Lib.hid (And.intro hi (And.intro hz0 (And.intro hz1 hz2)))
  clear hi hz0 hz1 hz2
  go_enter Try.func33, Try.ntmps33
  go_wp2
  go_loopg [0, 2] s.size (fun g s0 s2 wr => DecLoop w s g s0 s2 wr)
  case atStart => exact ⟨[], s, rfl, rfl, World.ownsRow_nil _ _ _ _, (b_nil' s).symm, fun _ h => (by cases h), Nat.zero_le _, by simp, Below.refl _ _⟩
  case round =>
    obtain ⟨l, r, rfl, hg, ho, he, hok, hl, hl7, hB⟩ := hrel
    have HO := Lib.hid ho
    have HE := Lib.hid he
    have HOK := Lib.hid hok
    have HB := Lib.hid hB
    have HG := Lib.hid hg
    clear ho he hok hB hg
    by_cases hb : Begins r
    · obtain ⟨x, a, hx, rfl⟩ := hb
      have hsz : (fr x ++ a).size = x.size + 6 + a.size := by rw [ByteArray.size_append, fr_size]
      have HX := Lib.hid hx
      have HSZ := Lib.hid hsz
      have hx1 := hx.1
      rw [hsz] at hl7
      have hr9 : (fr x ++ a).size ≤ 900000 := by omega
      have HR9 := Lib.hid hr9
      obtain ⟨q, hq⟩ : ∃ q, q = fr x ++ a := ⟨_, rfl⟩
      have HF := Lib.hid (fun w => first_yes x a w hr9 hx)
      rw [← hq] at HF ⊢
      have HQ := Lib.hid hq
      obtain ⟨n, hn⟩ : ∃ n, l.length = n := ⟨_, rfl⟩
      have HN := Lib.hid hn
      rw [hn] at hl hl7
      clear hr9 hq hx hsz hn
      go_wp2_with (first
        | (go_at_call 38; (refine (HF.out _).mono ?_); rintro e w1 ⟨rfl, hB1⟩; have HO1 : Hid (w1.ownsRow w.heap.size 9 1 u2 n (strR.row l)) := Lib.hid (by have := HO.out.on hB1; unfold RK.Own at this; rw [HN.out] at this; exact this); have HB1 := Lib.hid (m_below_on HB.out hB1); clear hB1)
        | (at_builtin; refine wpList_append_own1 _ rfl (.tmp 17) (.tmp 19) 44 rfl w.heap.size 9 i0 (.string ByteArray.empty) 1 16 Try.underlying44 HI.out.1 HI.out.2.1 HI.out.2.2.1 HI.out.2.2.2 rfl (by decide) u2 n _ rfl (HO1.out.alloc _) ⟨w1.heap.size, 0, none⟩ 1 1 [.string x] rfl rfl (cell_one _ _ _ _ rfl) (one_str x) (by unfold maxLen; omega) (by omega) (by have := HB1.out.size; simp; omega) (by decide) ?_; intro g3 c3 w3 hg3 hown3 hgr3; have HO3 := Lib.hid hown3; have HB3 : Hid (Below w.heap.size w w3) := Lib.hid ((HB1.out.alloc HB1.out.size _).grown hgr3 (by have := HB1.out.size; simp; omega) (fun j hj => (World.ownsRow.lt HO1.out j hj).1)); clear hown3 hgr3))
      go_roundg a.size
      case measure => have := HSZ.out; have h2 := HG.out; omega
      case rel => exact ⟨l ++ [x], a, rfl, rfl, by unfold RK.Own; rw [List.length_append, RK.row_snoc, HN.out]; exact HO3.out, recs_snoc HE.out rfl, by
        intro y hy
        rcases List.mem_append.1 hy with h1 | h1
        · exact HOK.out y h1
        · rw [List.mem_singleton.1 h1]; exact HX.out, by rw [List.length_append, HN.out]; simp; omega, by rw [List.length_append, HN.out]; simp; omega, HB3.out⟩
    · have hr9 : r.size ≤ 900000 := by omega
      have HF := Lib.hid (fun w => first_no r w hr9 hb)
      have HNB := Lib.hid hb
      clear hb
      go_wp2_with (go_at_call 38; (refine (HF.out _).mono ?_); rintro e w1 ⟨y, z, rfl, hB1⟩; have HO1 := Lib.hid (HO.out.on hB1); have HB1 := Lib.hid (m_below_on HB.out hB1); clear hB1)
      exact bodyPost_ret (v := .tuple #[u2, .string r]) (by simp [results, Try.results33, go_sem]) rfl ⟨_, l, r, rfl, HO1.out, ⟨HE.out, HOK.out, HNB.out⟩, HB1.out⟩
end Go.Proofs.Ytobmfbafjpbkoaa
