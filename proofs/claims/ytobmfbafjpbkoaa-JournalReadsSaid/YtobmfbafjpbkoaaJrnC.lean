/-
  The walks of journal's Open, Records and Add.
-/
import Derived.Test.YtobmfbafjpbkoaaJrnB
import Derived.Test.YtobmfbafjpbkoaaDiskU
namespace Go.Proofs.Ytobmfbafjpbkoaa
open Go.RowKit Go.Instr

/-- A journal in block J of the disk in block B, its records in a row of its own. -/
def JrnAt (w : World) (base B J : Nat) (l : List ByteArray) (f : Bool) : Prop := base ≤ J ∧ ∃ v, Blk w J #[.pointer (some ⟨B, 0, none⟩), v, .bool f] 68 ∧ strR.Own 9 w base v l
theorem JrnAt.on {w w1 : World} {base B J : Nat} {l : List ByteArray} {f : Bool} (h : JrnAt w base B J l f) (hB : Below w.heap.size w w1) : JrnAt w1 base B J l f := by
  obtain ⟨h0, v, h1, h2⟩ := h
  exact ⟨h0, v, h1.on hB, h2.on hB⟩
theorem JrnAt.lt {w : World} {base B J : Nat} {l : List ByteArray} {f : Bool} (h : JrnAt w base B J l f) : J < w.heap.size := by
  obtain ⟨h0, v, h1, h2⟩ := h
  exact h1.lt
/-- A row stays where blocks of other types turn. -/
theorem own_kept {w w' : World} {base : Nat} {v : Value} {l : List ByteArray} (h : strR.Own 9 w base v l) (hk : Kept w w') : strR.Own 9 w' base v l := by
  refine ⟨h.1, ?_⟩
  rcases h.2 with hn | ⟨g, cap, cur, rfl, hb, hg, rest⟩
  · exact .inl hn
  · exact .inr ⟨g, cap, cur, rfl, hb, (hk.2 g cur 9 (0, 0) hg (by decide) (by decide)).trans hg, rest⟩
theorem JrnAt.kept {w w1 : World} {base B J : Nat} {l : List ByteArray} {f : Bool} (h : JrnAt w base B J l f) (hk : Kept w w1) : JrnAt w1 base B J l f := by
  obtain ⟨h0, v, h1, h2⟩ := h
  exact ⟨h0, v, hk.blk h1 (by decide) (by decide), own_kept h2 hk⟩
/-- Blocks of other types below a bound are as they were. -/
def KeptB (base : Nat) (w w' : World) : Prop := w.heap.size ≤ w'.heap.size ∧ ∀ (k : Nat) (C : Array Value) (T : TypeId) (fz : Nat × Nat), k < base → w.heap[k]? = some (.cells C T fz) → T ≠ 62 → T ≠ 5 → w'.heap[k]? = w.heap[k]?
theorem KeptB.of {base : Nat} {w w' : World} (h : Kept w w') : KeptB base w w' := ⟨h.1, fun k C T fz _ hk h1 h2 => h.2 k C T fz hk h1 h2⟩
theorem KeptB.trans {base : Nat} {w w1 w2 : World} (h : KeptB base w w1) (h' : KeptB base w1 w2) : KeptB base w w2 :=
  ⟨Nat.le_trans h.1 h'.1, fun k C T fz hb hk h1 h2 => (h'.2 k C T fz hb ((h.2 k C T fz hb hk h1 h2).trans hk) h1 h2).trans (h.2 k C T fz hb hk h1 h2)⟩
theorem KeptB.mono {b1 b2 : Nat} {w w' : World} (h : KeptB b1 w w') (hb : b2 ≤ b1) : KeptB b2 w w' := ⟨h.1, fun k C T fz hk => h.2 k C T fz (by omega)⟩
theorem KeptB.below {base k : Nat} {w w' : World} (h : Below base w w') : KeptB base w w' := ⟨h.size, fun k _ _ _ hb _ _ _ => h.block k hb⟩
theorem own_keptB {w w' : World} {b0 base : Nat} {v : Value} {l : List ByteArray} (h : strR.Own 9 w b0 v l) (hk : KeptB base w w') (hb : ∀ g, v.ownBlock = some g → g < base) : strR.Own 9 w' b0 v l := by
  refine ⟨h.1, ?_⟩
  rcases h.2 with hn | ⟨g, cap, cur, rfl, hb0, hg, rest⟩
  · exact .inl hn
  · exact .inr ⟨g, cap, cur, rfl, hb0, (hk.2 g cur 9 (0, 0) (hb g rfl) hg (by decide) (by decide)).trans hg, rest⟩
set_option maxHeartbeats 400000 in
theorem Open_nil (w : World) : Calls Try.prog 25 #[.pointer none] w fun e w' => e = .returned (.tuple #[.pointer none, .int .i64 1]) ∧ w = w' := by
  go_enter Try.func25, Try.ntmps25
  go_wp2_with ((refine Read_nil.mono ?_); rintro en w1 ⟨rfl, rfl⟩)
  go_ret2
  exact ⟨rfl, rfl⟩
section
variable {w : World} {base B : Nat} {k : Dk}
set_option maxHeartbeats 400000 in
theorem Open_off (h : DiskAt w base B k) (ho : k.on = false) : Calls Try.prog 25 #[.pointer (some ⟨B, 0, none⟩)] w fun e w' => e = .returned (.tuple #[.pointer none, .int .i64 10]) ∧ w = w' := by
  have HD := Lib.hid h
  have HON := Lib.hid ho
  clear h ho
  go_enter Try.func25, Try.ntmps25
  go_wp2_with ((refine (Read_off HD.out HON.out).mono ?_); rintro en w1 ⟨rfl, rfl⟩)
  go_ret2
  exact ⟨rfl, rfl⟩
theorem Cut_at {i : Int} (n : Nat) (hi : i = n) (h : DiskAt w base B k) (hbw : base ≤ B) (hk : k.ok) (ho : k.on = true) (hn : n ≤ k.s.size) : Calls Try.prog 12 #[.pointer (some ⟨B, 0, none⟩), .int .i64 i] w (DiskP base B w (.int .i64 0) ⟨k.s.extract 0 n, n, true⟩) := by
  subst hi; exact Cut_good n h hbw hk ho hn
def OpenP (base B : Nat) (s : ByteArray) (w : World) (e : Ending) (w' : World) : Prop :=
  ∃ J l r, e = .returned (.tuple #[.pointer (some ⟨J, 0, none⟩), .int .i64 0]) ∧ IsRecs s l r ∧ JrnAt w' w.heap.size B J l false ∧ DiskAt w' base B ⟨frs l, (frs l).size, true⟩ ∧ Below base w w' ∧ Kept w w' ∧ w.heap.size < w'.heap.size
set_option maxHeartbeats 1000000 in
theorem Open_on (s : ByteArray) (h : DiskAt w base B k) (hbw : base ≤ B) (hk : k.ok) (ho : k.on = true) (hks : k.s = s) (hs : s.size ≤ 900000) : Calls Try.prog 25 #[.pointer (some ⟨B, 0, none⟩)] w (OpenP base B s w) := by
  have hBw := h.lt
  have HD := Lib.hid h
  have HON := Lib.hid ho
  have HOK := Lib.hid hk
  have HKS := Lib.hid hks
  have HS := Lib.hid hs
  clear h ho hk hks
  go_enter Try.func25, Try.ntmps25
  go_upto_region 5 with (first
    | (go_at_call 20; (refine (Read_is s HD.out HON.out HKS.out).mono ?_); rintro en w1 ⟨rfl, rfl⟩)
    | (go_at_call 33; (refine (decode_any s _ HS.out).mono ?_); rintro en w1 ⟨v1, l, r, rfl, hO1, hI1, hB1⟩; have HO1 := Lib.hid hO1; have HI1 := Lib.hid hI1; have HB1 := Lib.hid hB1; clear hO1 hI1 hB1))
  have hsz : s.size = (frs l).size + r.size := by
    have := congrArg ByteArray.size HI1.out.1
    rw [ByteArray.size_append] at this
    exact this
  obtain ⟨a1, c1, hv1⟩ := HO1.out.at.len
  subst hv1
  have HSZ := Lib.hid hsz
  obtain ⟨n, hn⟩ : ∃ n, n = (frs l).size := ⟨_, rfl⟩
  rw [← hn] at hsz
  have HN := Lib.hid hn
  have hle : n ≤ k.s.size := by rw [HKS.out]; omega
  have HLE := Lib.hid hle
  have hd : (s.size : Int) - (r.size : Int) = (n : Int) := by omega
  have HDD := Lib.hid hd
  clear hle hn
  have HDk := Lib.hid (HD.out.on HB1.out)
  go_wp2_with ((with_reducible refine (Cut_good n HDk.out hbw HOK.out HON.out HLE.out).mono ?_); rintro en w2 ⟨rfl, hD2, hB2, hK2⟩; have HD2 := Lib.hid hD2; have HB2 := Lib.hid (HB1.out.mono (by omega) |>.trans hB2); have HK2 := Lib.hid hK2; clear hD2 hB2 hK2)
  go_ret2
  have e1 : k.s.extract 0 n = frs l := by
    rw [HKS.out, HI1.out.1, HN.out]
    exact ext_head _ _
  have hD3 : DiskAt w2 base B ⟨frs l, (frs l).size, true⟩ := by
    have := HD2.out
    rw [e1, HN.out] at this
    exact this
  refine ⟨w2.heap.size, l, r, rfl, HI1.out, ⟨?_, _, Blk.new rfl, (own_kept HO1.out HK2.out).al _⟩, hD3.on (by go_grown), ?_, ?_, ?_⟩
  · have h1 := HB1.out.size
    have h2 := HK2.out.1
    omega
  · exact HB2.out.trans ((Below.refl _ _).alloc (by have h1 := HB2.out.size; have h2 := HB1.out.size; omega) _)
  · exact (Kept.of_below HB1.out).trans (HK2.out.trans (Kept.of_below (by go_grown)))
  · have h1 := HB1.out.size
    have h2 := HK2.out.1
    simp; omega
theorem own_nil_or {w : World} {base : Nat} {v : Value} {l : List ByteArray} (h : strR.Own 9 w base v l) : (v = .slice none 0 0 ∧ l = []) ∨ ∃ g cap, v = .slice (some ⟨g, 0, none⟩) l.length cap ∧ g < w.heap.size ∧ ∀ j u, (strR.row l)[j]? = some u → w.cell? ((⟨g, 0, none⟩ : Addr).add j) = some u := by
  rcases h.2 with ⟨rfl, h0⟩ | ⟨g, cap, cur, rfl, hb, hg, _⟩
  · exact .inl ⟨rfl, List.eq_nil_of_length_eq_zero h0⟩
  · exact .inr ⟨g, cap, rfl, (Array.getElem?_eq_some_iff.1 hg).1, fun j u hu => World.ownsRow.cells h (g := g) rfl j u hu⟩
theorem own_zero (w : World) (base : Nat) (hb : base ≤ w.heap.size) : (w.alloc (.cells #[] 9)).ownsRow base 9 1 (.slice (some ⟨w.heap.size, 0, none⟩) 0 0) 0 [] :=
  ⟨rfl, .inr ⟨w.heap.size, 0, #[], rfl, hb, heap_alloc_new w _, Nat.le_refl _, Nat.zero_le _, rfl, rfl⟩⟩
theorem own_form {w : World} {base n : Nat} {E : TypeId} {sz : Nat} {v : Value} {xs : List Value} (h : w.ownsRow base E sz v n xs) : ∃ a c, v = .slice a n c := by
  rcases h.2 with ⟨rfl, rfl⟩ | ⟨g, cap, cur, rfl, _⟩
  · exact ⟨_, _, rfl⟩
  · exact ⟨_, _, rfl⟩
set_option maxHeartbeats 1000000 in
theorem Clone_any (v : Value) (l : List ByteArray) (w : World) (b0 : Nat) (h : strR.Own 9 w b0 v l) (hl : l.length ≤ 1000000) : Calls Try.prog 34 #[v] w fun e w' => ∃ v', e = .returned v' ∧ strR.Own 9 w' w.heap.size v' l ∧ Below w.heap.size w w' := by
  obtain ⟨i0, hi, hz0, hz1, hz2⟩ := info_parts Try.info9
  have HI := Lib.hid (And.intro hi (And.intro hz0 (And.intro hz1 hz2)))
  clear hi hz0 hz1 hz2
  rcases own_nil_or h with ⟨rfl, rfl⟩ | ⟨g, cap, rfl, hg, hc⟩
  · clear h
    have q44 : ∀ (w : World) (a : Option Addr) (n c n' c' : Nat), (binOp .eql 44 (.slice a n c) (.slice none n' c')).run Try.prog w = .ok (.bool a.isNone) w := fun w a n c n' c' => Lib.run_eql_slice_nil w _ _ a n c n' c' Try.underlying44
    go_enter Try.func34, Try.ntmps34
    go_wp2
    go_ret
    exact ⟨_, rfl, World.ownsRow_nil _ _ _ _, Below.refl _ _⟩
  · have HC : Hid (∀ j u, (strR.row l)[j]? = some u → (w.alloc (.cells #[] 9)).cell? ((⟨g, 0, none⟩ : Addr).add j) = some u) := Lib.hid (fun j u hu => (((Below.refl w.heap.size w).alloc (Nat.le_refl _) (.cells #[] 9)).cell (p := (⟨g, 0, none⟩ : Addr).add j) (by unfold Addr.add; split <;> simpa using hg)).trans (hc j u hu))
    have HL : Hid ((strR.row l).length = l.length * 1) := Lib.hid (by rw [RK.row_len]; rfl)
    have H1 := Lib.hid (strR.row_ones l)
    obtain ⟨n, hn⟩ : ∃ n, l.length = n := ⟨_, rfl⟩
    have HN := Lib.hid hn
    rw [hn] at hl HL
    simp only [hn]
    clear h hc hn
    have q44 : ∀ (w : World) (a : Option Addr) (n c n' c' : Nat), (binOp .eql 44 (.slice a n c) (.slice none n' c')).run Try.prog w = .ok (.bool a.isNone) w := fun w a n c n' c' => Lib.run_eql_slice_nil w _ _ a n c n' c' Try.underlying44
    go_enter Try.func34, Try.ntmps34
    go_wp2_with (at_builtin; refine wpList_append_own _ rfl (.tmp 5) (.tmp 6) 44 rfl w.heap.size 9 i0 (.string ByteArray.empty) 1 16 Try.underlying44 HI.out.1 HI.out.2.1 HI.out.2.2.1 HI.out.2.2.2 rfl (by decide) (.slice (some ⟨w.heap.size, 0, none⟩) 0 0) 0 [] rfl (own_zero w w.heap.size (Nat.le_refl _)) ⟨g, 0, none⟩ n cap (strR.row l) rfl HL.out HC.out H1.out (by unfold maxLen; omega) (by omega) (by simp) ?_; intro v5 w5 hown5 hgr5 hnil5; obtain ⟨a5, c5, rfl⟩ := own_form hown5; have HO5 := Lib.hid hown5; have HB5 : Hid (Below w.heap.size w w5) := Lib.hid (((Below.refl _ _).alloc (Nat.le_refl _) _).grown hgr5 (by simp) (fun j hj => by simp [Value.ownBlock] at hj; omega)); clear hown5 hgr5 hnil5)
    go_ret
    refine ⟨_, rfl, ?_, HB5.out⟩
    unfold RK.Own
    rw [HN.out]
    have := HO5.out
    rw [Nat.zero_add, List.nil_append] at this
    exact this
set_option maxHeartbeats 400000 in
theorem Records_nil (w : World) : Calls Try.prog 27 #[.pointer none] w fun e w' => e = .returned (.slice none 0 0) ∧ w = w' := by
  go_enter Try.func27, Try.ntmps27
  go_wp2
  go_ret
  exact ⟨rfl, rfl⟩
set_option maxHeartbeats 400000 in
theorem Records_any {J : Nat} {l : List ByteArray} {f : Bool} (h : JrnAt w base B J l f) (hl : l.length ≤ 1000000) : Calls Try.prog 27 #[.pointer (some ⟨J, 0, none⟩)] w fun e w' => ∃ v', e = .returned v' ∧ strR.Own 9 w' w.heap.size v' l ∧ Below w.heap.size w w' := by
  obtain ⟨h0, v, h1, h2⟩ := h
  have c1 : w.cell? ⟨J, 1, none⟩ = some v := h1.cell 1
  have HO := Lib.hid h2
  have HL := Lib.hid hl
  clear h1 h2 hl
  go_enter Try.func27, Try.ntmps27
  go_wp2_with ((refine (Clone_any v l _ base HO.out HL.out).mono ?_); rintro en w1 ⟨v', rfl, hO1, hB1⟩; have HO1 := Lib.hid hO1; have HB1 := Lib.hid hB1; clear hO1 hB1)
  go_ret
  exact ⟨_, rfl, HO1.out, HB1.out⟩
def WriteP (base B : Nat) (w : World) (v : Int) (k : Dk) (e : Ending) (w' : World) : Prop := e = .returned (.int .i64 v) ∧ DiskAt w' base B k ∧ Below base w w' ∧ Kept w w'
set_option maxHeartbeats 400000 in
theorem write_off {J b0 : Nat} {l : List ByteArray} {f : Bool} (s : ByteArray) (hj : JrnAt w b0 B J l f) (h : DiskAt w base B k) (ho : k.on = false) : Calls Try.prog 35 #[.pointer (some ⟨J, 0, none⟩), .string s] w fun e w' => e = .returned (.int .i64 10) ∧ w = w' := by
  obtain ⟨h0, v, h1, h2⟩ := hj
  have c0 : w.cell? ⟨J, 0, none⟩ = some (.pointer (some ⟨B, 0, none⟩)) := h1.cell 0
  have HD := Lib.hid h
  have HON := Lib.hid ho
  clear h ho h1 h2
  go_enter Try.func35, Try.ntmps35
  go_wp2_with ((refine (Append_off s HD.out HON.out).mono ?_); rintro en w1 ⟨rfl, rfl⟩)
  go_ret
  exact ⟨rfl, rfl⟩
set_option maxHeartbeats 400000 in
theorem write_on {J b0 : Nat} {l : List ByteArray} {f : Bool} (s : ByteArray) (hj : JrnAt w b0 B J l f) (h : DiskAt w base B k) (hbw : base ≤ B) (hk : k.ok) (ho : k.on = true) (hf : k.s.size + s.size ≤ 1048576) : Calls Try.prog 35 #[.pointer (some ⟨J, 0, none⟩), .string s] w (DiskP base B w (.int .i64 0) ⟨k.s ++ s, (k.s ++ s).size, true⟩) := by
  obtain ⟨h0, v, h1, h2⟩ := hj
  have c0 : w.cell? ⟨J, 0, none⟩ = some (.pointer (some ⟨B, 0, none⟩)) := h1.cell 0
  have HJ := Lib.hid h1
  have HD := Lib.hid h
  have HON := Lib.hid ho
  have HK := Lib.hid hk
  have HF := Lib.hid hf
  have HOK : Hid ((⟨k.s ++ s, k.d, true⟩ : Dk).ok) := Lib.hid (by
    have h9 : (k.s ++ s).size = k.s.size + s.size := ByteArray.size_append
    refine ⟨?_, ?_⟩
    · have := hk.1
      show k.d ≤ (k.s ++ s).size
      omega
    · show (k.s ++ s).size ≤ 1048576
      omega)
  clear h ho h1 h2 hk hf
  go_enter Try.func35, Try.ntmps35
  go_wp2_with (first
    | (go_at_call 18; (refine (Append_good s HD.out hbw HK.out HON.out HF.out).mono ?_); rintro en w1 ⟨rfl, hD1, hB1, hK1⟩; have HD1 := Lib.hid hD1; have HB1 := Lib.hid hB1; have HK1 := Lib.hid hK1; have c0 : w1.cell? ⟨J, 0, none⟩ = some (.pointer (some ⟨B, 0, none⟩)) := (hK1.blk HJ.out (by decide) (by decide)).cell 0; clear hD1 hB1 hK1)
    | (go_at_call 10; (refine (Sync_on HD1.out hbw HOK.out rfl).mono ?_); rintro en w2 ⟨rfl, hD2, hB2, hK2⟩; have HD2 := Lib.hid hD2; have HB2 := Lib.hid (HB1.out.trans hB2); have HK2 := Lib.hid (HK1.out.trans hK2); clear hD2 hB2 hK2))
  go_ret
  exact ⟨rfl, HD2.out, HB2.out, HK2.out⟩
set_option maxHeartbeats 400000 in
theorem Add_nil (s : ByteArray) : Calls Try.prog 28 #[.pointer none, .string s] w fun e w' => e = .returned (.int .i64 1) ∧ w = w' := by
  go_enter Try.func28, Try.ntmps28
  go_wp2
  go_ret
  exact ⟨rfl, rfl⟩
set_option maxHeartbeats 400000 in
theorem Add_empty (a : Addr) : Calls Try.prog 28 #[.pointer (some a), .string ⟨#[]⟩] w fun e w' => e = .returned (.int .i64 1) ∧ w = w' := by
  go_enter Try.func28, Try.ntmps28
  go_wp2
  go_ret
  exact ⟨rfl, rfl⟩
theorem str_facts (x : ByteArray) (h : 1 ≤ x.size) : x.toList.isEmpty = false ∧ (x.toList == []) = false := by
  have he : x.toList.isEmpty = false := isEmpty_of x (by omega)
  exact ⟨he, by rw [beq_eq_false_iff_ne]; intro e; rw [e] at he; simp at he⟩
set_option maxHeartbeats 400000 in
theorem Add_long (x : ByteArray) (a : Addr) (h : 512 < x.size) : Calls Try.prog 28 #[.pointer (some a), .string x] w fun e w' => e = .returned (.int .i64 3) ∧ w = w' := by
  obtain ⟨q1, q2⟩ := str_facts x (by omega)
  have hd : decide (512 < x.size) = true := by simp; omega
  go_enter Try.func28, Try.ntmps28
  go_wp2
  go_ret
  exact ⟨rfl, rfl⟩
set_option maxHeartbeats 400000 in
theorem Add_failed {J b0 : Nat} {l : List ByteArray} (x : ByteArray) (hj : JrnAt w b0 B J l true) (hx : okR x) : Calls Try.prog 28 #[.pointer (some ⟨J, 0, none⟩), .string x] w fun e w' => e = .returned (.int .i64 8) ∧ w = w' := by
  obtain ⟨q1, q2⟩ := str_facts x hx.1
  have h512 := hx.2
  have hd : decide (512 < x.size) = false := by simp; omega
  have hd2 : decide (512 < (x.size : Int)) = false := by simp; omega
  obtain ⟨h0, v, h1, h2⟩ := hj
  have c2 : w.cell? ⟨J, 2, none⟩ = some (.bool true) := h1.cell 2
  clear h1 h2 hx
  go_enter Try.func28, Try.ntmps28
  go_wp2
  go_ret
  exact ⟨rfl, rfl⟩
set_option maxHeartbeats 1000000 in
theorem Add_off {J b0 : Nat} {l : List ByteArray} (x : ByteArray) (hj : JrnAt w b0 B J l false) (h : DiskAt w base B k) (ho : k.on = false) (hx : okR x) : Calls Try.prog 28 #[.pointer (some ⟨J, 0, none⟩), .string x] w fun e w' => e = .returned (.int .i64 10) ∧ JrnAt w' b0 B J l true ∧ DiskAt w' base B k ∧ Below b0 w w' := by
  obtain ⟨q1, q2⟩ := str_facts x hx.1
  have h512 := hx.2
  have hd : decide (512 < x.size) = false := by simp; omega
  have hd2 : decide (512 < (x.size : Int)) = false := by simp; omega
  have HJ := Lib.hid hj
  have HD := Lib.hid h
  have HON := Lib.hid ho
  have hJw := hj.lt
  obtain ⟨h0, v, h1, h2⟩ := hj
  have c2 : w.cell? ⟨J, 2, none⟩ = some (.bool false) := h1.cell 2
  have HV := Lib.hid h1
  have HO := Lib.hid h2
  clear h1 h2 hx h ho
  go_enter Try.func28, Try.ntmps28
  go_wp2_with (first
    | (go_at_call 36; (refine (encode_fr x _ (by omega)).mono ?_); rintro en w1 ⟨rfl, hB1⟩; have HB1 := Lib.hid hB1; have HV1 := Lib.hid (HV.out.on hB1); have c2 : w1.cell? ⟨J, 2, none⟩ = some (.bool false) := HV1.out.cell 2; have f2 := HV1.out.frozen 2; clear hB1)
    | (go_at_call 35; (refine (write_off (fr x) (HJ.out.on HB1.out) (HD.out.on HB1.out) HON.out).mono ?_); rintro en w2 ⟨rfl, rfl⟩))
  go_ret
  refine ⟨rfl, ⟨h0, v, HV1.out.set 2 _ _ rfl, (HO.out.on HB1.out).setB HV1.out (by decide)⟩, (HD.out.on HB1.out).setB HV1.out (by decide) (by decide), ?_⟩
  exact (HB1.out.mono (by omega)).setCell (p := ⟨J, 2, none⟩) h0 _
end
end Go.Proofs.Ytobmfbafjpbkoaa
