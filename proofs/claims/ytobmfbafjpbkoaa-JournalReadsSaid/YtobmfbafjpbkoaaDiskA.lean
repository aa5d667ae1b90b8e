/-
  The walks of disk: what each call returns, and what it leaves of the disk and of all else in memory.
-/
import Derived.Test.YtobmfbafjpbkoaaProg
import Derived.Test.YtobmfbafjpbkoaaGen
import Derived.Test.YtobmfbafjpbkoaaCrcA
import Derived.Test.YtobmfbafjpbkoaaOctB
import Derived.Lib.AppendStr
namespace Go.Proofs.Ytobmfbafjpbkoaa
open Go.RowKit Go.Instr

/-- A disk: its bytes, how many of them are durable, whether its power is on. -/
structure Dk where
  s : ByteArray
  d : Nat
  on : Bool
def Dk.ok (k : Dk) : Prop := k.d ≤ k.s.size ∧ k.s.size ≤ 1048576
instance (k : Dk) : Decidable k.ok := by unfold Dk.ok; infer_instance
/-- A disk in block B, its bytes in a row of the call's own. -/
def DiskAt (w : World) (base B : Nat) (k : Dk) : Prop := ∃ v, Blk w B #[v, .int .i64 k.d, .bool k.on] 62 ∧ w.ownsRow base 5 1 v k.s.size (k.s.data.toList.map byteV)
theorem DiskAt.on {w w1 : World} {base B : Nat} {k : Dk} (h : DiskAt w base B k) (hB : Below w.heap.size w w1) : DiskAt w1 base B k := by
  obtain ⟨s, h1, h2⟩ := h
  exact ⟨s, h1.on hB, own_below h2 hB⟩
theorem DiskAt.lt {w : World} {base B : Nat} {k : Dk} (h : DiskAt w base B k) : B < w.heap.size := by
  obtain ⟨s, h1, h2⟩ := h
  exact h1.lt
/-- Blocks of other types are as they were. -/
def Kept (w w' : World) : Prop := w.heap.size ≤ w'.heap.size ∧ ∀ (k : Nat) (C : Array Value) (T : TypeId) (fz : Nat × Nat), w.heap[k]? = some (.cells C T fz) → T ≠ 62 → T ≠ 5 → w'.heap[k]? = w.heap[k]?
theorem Kept.refl (w : World) : Kept w w := ⟨Nat.le_refl _, fun _ _ _ _ _ _ _ => rfl⟩
theorem Kept.of_below {w w' : World} (h : Below w.heap.size w w') : Kept w w' := ⟨h.size, fun k _ _ _ hk _ _ => h.block k (Array.getElem?_eq_some_iff.1 hk).1⟩
theorem Kept.trans {w w1 w2 : World} (h : Kept w w1) (h' : Kept w1 w2) : Kept w w2 :=
  ⟨Nat.le_trans h.1 h'.1, fun k C T fz hk h1 h2 => (h'.2 k C T fz ((h.2 k C T fz hk h1 h2).trans hk) h1 h2).trans (h.2 k C T fz hk h1 h2)⟩
theorem Kept.blk {w w' : World} {B : Nat} {cs : Array Value} {T : TypeId} (h : Kept w w') (hb : Blk w B cs T) (h1 : T ≠ 62) (h2 : T ≠ 5) : Blk w' B cs T := (h.2 B cs T (0, 0) hb h1 h2).trans hb
theorem Kept.set {w w' : World} (h : Kept w w') {B j : Nat} {v : Value} {cs : Array Value} {T : TypeId} {fz : Nat × Nat} (hB : w'.heap[B]? = some (.cells cs T fz)) (hT : T = 62 ∨ T = 5) : Kept w (w'.setCell ⟨B, j, none⟩ v) := by
  refine ⟨by simpa using h.1, fun k C T' fz' hk h1 h2 => ?_⟩
  have e := h.2 k C T' fz' hk h1 h2
  refine (Below.heap_setCell w' ⟨B, j, none⟩ v k ?_).trans e
  rintro rfl
  rw [e, hk] at hB
  simp only [Option.some.injEq, Obj.cells.injEq] at hB
  rcases hT with h | h
  · exact h1 (hB.2.1.trans h)
  · exact h2 (hB.2.1.trans h)
theorem Kept.grown {w w' : World} {base n : Nat} {s : Value} {xs : List Value} (ho : w.ownsRow base 5 1 s n xs) (hg : w.grownBy w' s.ownBlock) : Kept w w' :=
  ⟨hg.size, fun k _ _ _ hk _ h2 => hg.block k (Array.getElem?_eq_some_iff.1 hk).1 (fun e => own_ne ho hk (fun e => h2 e.symm) e.symm)⟩
/-- What a call on a disk leaves. -/
def DiskP (base B : Nat) (w : World) (v : Value) (k : Dk) (e : Ending) (w' : World) : Prop :=
  e = .returned v ∧ DiskAt w' base B k ∧ Below base w w' ∧ Kept w w'
theorem DiskP.quiet {base B : Nat} {w w' : World} {v : Value} {k : Dk} (hb : base ≤ w.heap.size) (h : DiskAt w base B k) (hB : Below w.heap.size w w') : DiskP base B w v k (.returned v) w' :=
  ⟨rfl, h.on hB, hB.mono hb, .of_below hB⟩
theorem own_cut {w : World} {base g m n cap : Nat} {xs : List Value} (h : w.ownsRow base 5 1 (.slice (some ⟨g, 0, none⟩) m cap) m xs) (hn : n ≤ m) : w.ownsRow base 5 1 (.slice (some ⟨g, 0, none⟩) n cap) n (xs.take n) := by
  refine ⟨by rw [List.length_take, h.1]; omega, ?_⟩
  rcases h.2 with ⟨h, _⟩ | ⟨g', cap', cur, he, hb, hg, hnc, hcm, hcs, ht⟩
  · cases h
  · simp only [Value.slice.injEq, Option.some.injEq, Addr.mk.injEq, and_true] at he
    obtain ⟨rfl, _, rfl⟩ := he
    refine .inr ⟨g, cap, cur, rfl, hb, hg, by omega, hcm, hcs, ?_⟩
    rw [← ht, List.take_take]
    congr 1
    omega
theorem ext_map (s : ByteArray) (n : Nat) : (s.extract 0 n).data.toList.map byteV = (s.data.toList.map byteV).take n := by
  rw [Lib.extract_data]
  simp [List.map_take]
theorem ext_size (s : ByteArray) (n : Nat) (h : n ≤ s.size) : (s.extract 0 n).size = n := by
  simp [ByteArray.size_extract]; omega
theorem ext_all (s : ByteArray) : s.extract 0 s.size = s := by
  apply Go.WideShapes.bytes_inj
  rw [Lib.extract_data]
  simp
  exact List.take_of_length_le (by simp)
set_option maxHeartbeats 400000 in
theorem New_any (w : World) : Calls Try.prog 9 #[] w fun e w' => e = .returned (.pointer (some ⟨w.heap.size, 0, none⟩)) ∧ w' = w.alloc (.cells #[.slice none 0 0, .int .i64 0, .bool true] 62) := by
  go_enter Try.func9, Try.ntmps9
  go_wp2
  go_ret
  exact ⟨rfl, rfl⟩
theorem New_disk (w : World) : Calls Try.prog 9 #[] w fun e w' => e = .returned (.pointer (some ⟨w.heap.size, 0, none⟩)) ∧ DiskAt w' w.heap.size w.heap.size ⟨ByteArray.empty, 0, true⟩ ∧ Below w.heap.size w w' ∧ w.heap.size < w'.heap.size :=
  (New_any w).mono fun e w' ⟨h1, h2⟩ => by
    subst h2
    exact ⟨h1, ⟨_, Blk.new rfl, rfl, .inl ⟨rfl, rfl⟩⟩, by go_grown, by simp⟩
section
variable {w : World} {base B : Nat} {k : Dk}
set_option maxHeartbeats 400000 in
theorem check_on (h : DiskAt w base B k) (ho : k.on = true) : Calls Try.prog 29 #[.pointer (some ⟨B, 0, none⟩)] w fun e w' => e = .returned (.int .i64 0) ∧ w = w' := by
  obtain ⟨v, h1, h2⟩ := h
  rw [ho] at h1
  have c2 : w.cell? ⟨B, 2, none⟩ = some (.bool true) := h1.cell 2
  clear h1 h2
  go_enter Try.func29, Try.ntmps29
  go_wp2
  go_ret
  exact ⟨rfl, rfl⟩
set_option maxHeartbeats 400000 in
theorem check_off (h : DiskAt w base B k) (ho : k.on = false) : Calls Try.prog 29 #[.pointer (some ⟨B, 0, none⟩)] w fun e w' => e = .returned (.int .i64 10) ∧ w = w' := by
  obtain ⟨v, h1, h2⟩ := h
  rw [ho] at h1
  have c2 : w.cell? ⟨B, 2, none⟩ = some (.bool false) := h1.cell 2
  clear h1 h2
  go_enter Try.func29, Try.ntmps29
  go_wp2
  go_ret
  exact ⟨rfl, rfl⟩
set_option maxHeartbeats 400000 in
theorem check_nil : Calls Try.prog 29 #[.pointer none] w fun e w' => e = .returned (.int .i64 1) ∧ w = w' := by
  go_enter Try.func29, Try.ntmps29
  go_wp2
  go_ret
  exact ⟨rfl, rfl⟩
set_option maxHeartbeats 400000 in
theorem On_any (h : DiskAt w base B k) : Calls Try.prog 21 #[.pointer (some ⟨B, 0, none⟩)] w fun e w' => e = .returned (.bool k.on) ∧ w = w' := by
  obtain ⟨v, h1, h2⟩ := h
  have c2 : w.cell? ⟨B, 2, none⟩ = some (.bool k.on) := h1.cell 2
  clear h1 h2
  go_enter Try.func21, Try.ntmps21
  go_wp2
  go_ret
  exact ⟨rfl, rfl⟩
set_option maxHeartbeats 400000 in
theorem On_nil : Calls Try.prog 21 #[.pointer none] w fun e w' => e = .returned (.bool false) ∧ w = w' := by
  go_enter Try.func21, Try.ntmps21
  go_wp2
  go_ret
  exact ⟨rfl, rfl⟩
set_option maxHeartbeats 400000 in
theorem keep_any (n : Nat) (h : DiskAt w base B k) (hbw : base ≤ B) (hk : k.ok) (hn : n ≤ k.s.size) : Calls Try.prog 30 #[.pointer (some ⟨B, 0, none⟩), .int .i64 n] w (DiskP base B w (.tuple #[]) ⟨k.s.extract 0 n, n, k.on⟩) := by
  have hBw := h.lt
  have h20 := hk.2
  obtain ⟨v, h1, h2⟩ := h
  have c0 : w.cell? ⟨B, 0, none⟩ = some v := h1.cell 0
  have c1 : w.cell? ⟨B, 1, none⟩ = some (.int .i64 k.d) := h1.cell 1
  have f0 := h1.frozen 0
  have f1 := h1.frozen 1
  have HV := Lib.hid h1
  have HO := Lib.hid h2
  have HN := Lib.hid hn
  obtain ⟨m, hm⟩ : ∃ m, k.s.size = m := ⟨_, rfl⟩
  rw [hm] at hn h2 h20
  have HM := Lib.hid hm
  clear h1 hk hm
  have fin : ∀ v', (w.ownsRow base 5 1 v' n ((k.s.extract 0 n).data.toList.map byteV)) → DiskP base B w (.tuple #[]) ⟨k.s.extract 0 n, n, k.on⟩ (.returned (.tuple #[])) ((w.setCell ⟨B, 0, none⟩ v').setCell ⟨B, 1, none⟩ (.int .i64 n)) := by
    intro v' ho
    refine ⟨rfl, ⟨v', (HV.out.set 0 v' _ rfl).set 1 (.int .i64 n) _ rfl, ?_⟩, ((Below.refl _ _).setCell (p := ⟨B, 0, none⟩) hbw _).setCell (p := ⟨B, 1, none⟩) hbw _, ?_⟩
    · show World.ownsRow _ base 5 1 v' (k.s.extract 0 n).size _
      rw [ext_size _ _ HN.out]
      have ne : v'.ownBlock ≠ some B := own_ne ho HV.out (by decide)
      refine own_block ho (fun g hg => ?_)
      have hgB : g ≠ B := fun e => ne (by rw [hg, e])
      rw [Below.heap_setCell _ ⟨B, 1, none⟩ _ g hgB, Below.heap_setCell _ ⟨B, 0, none⟩ _ g hgB]
    · exact Kept.set (Kept.set (.refl w) HV.out (.inl rfl)) (HV.out.set 0 v' _ rfl) (.inl rfl)
  have FIN := Lib.hid fin
  clear fin
  rcases h2.2 with ⟨rfl, h0⟩ | ⟨g, cap, cur, rfl, hb, hg, hnc, hcm, hcs, ht⟩
  · have hn0 : n = 0 := by omega
    subst hn0
    have hO : w.ownsRow base 5 1 (.slice none 0 0) 0 ((k.s.extract 0 0).data.toList.map byteV) := ⟨by rw [ext_map]; rfl, .inl ⟨rfl, rfl⟩⟩
    have HO2 := Lib.hid (FIN.out _ hO)
    clear h2 hO
    go_enter Try.func30, Try.ntmps30
    go_wp2
    exact bodyPost_ret (by simp [results, Try.results30, go_sem]) rfl HO2.out
  · have hO : w.ownsRow base 5 1 (.slice (some ⟨g, 0, none⟩) n cap) n ((k.s.extract 0 n).data.toList.map byteV) := by
      rw [ext_map]; exact own_cut h2 hn
    have HO2 := Lib.hid (FIN.out _ hO)
    have hnc2 : n ≤ cap := by omega
    clear h2 hO ht hcs hg
    go_enter Try.func30, Try.ntmps30
    go_wp2
    exact bodyPost_ret (by simp [results, Try.results30, go_sem]) rfl HO2.out
set_option maxHeartbeats 400000 in
theorem Sync_on (h : DiskAt w base B k) (hbw : base ≤ B) (hk : k.ok) (ho : k.on = true) : Calls Try.prog 10 #[.pointer (some ⟨B, 0, none⟩)] w (DiskP base B w (.int .i64 0) ⟨k.s, k.s.size, true⟩) := by
  have HD := Lib.hid h
  have HK := Lib.hid hk
  have HON := Lib.hid ho
  obtain ⟨v, h1, h2⟩ := h
  have c0 : w.cell? ⟨B, 0, none⟩ = some v := h1.cell 0
  obtain ⟨m, hm⟩ : ∃ m, k.s.size = m := ⟨_, rfl⟩
  rw [hm] at h2
  have HM := Lib.hid hm
  have hv : ∃ a cap, v = .slice a m cap := by
    rcases h2.2 with ⟨rfl, rfl⟩ | ⟨g, cap, cur, rfl, _⟩
    · exact ⟨_, _, rfl⟩
    · exact ⟨_, _, rfl⟩
  obtain ⟨a, cap, rfl⟩ := hv
  clear h1 h2 hk hm ho
  go_enter Try.func10, Try.ntmps10
  go_wp2_with (first
    | (go_at_call 29; (refine (check_on HD.out HON.out).mono ?_); rintro en w1 ⟨rfl, rfl⟩)
    | (go_at_call 30; (refine (keep_any m HD.out hbw HK.out (Nat.le_of_eq HM.out.symm)).mono ?_); rintro en w1 ⟨rfl, hD1, hB1, hK1⟩; have HD1 := Lib.hid hD1; have HB1 := Lib.hid hB1; have HK1 := Lib.hid hK1; clear hD1 hB1 hK1))
  go_ret
  refine ⟨rfl, ?_, HB1.out, HK1.out⟩
  have := HD1.out
  rw [← HM.out, ext_all, HON.out] at this
  exact this
set_option maxHeartbeats 400000 in
theorem Sync_off (h : DiskAt w base B k) (ho : k.on = false) : Calls Try.prog 10 #[.pointer (some ⟨B, 0, none⟩)] w fun e w' => e = .returned (.int .i64 10) ∧ w = w' := by
  have HD := Lib.hid h
  have HON := Lib.hid ho
  clear h ho
  go_enter Try.func10, Try.ntmps10
  go_wp2_with ((refine (check_off HD.out HON.out).mono ?_); rintro en w1 ⟨rfl, rfl⟩)
  go_ret
  exact ⟨rfl, rfl⟩
set_option maxHeartbeats 400000 in
theorem Sync_nil : Calls Try.prog 10 #[.pointer none] w fun e w' => e = .returned (.int .i64 1) ∧ w = w' := by
  go_enter Try.func10, Try.ntmps10
  go_wp2_with ((refine check_nil.mono ?_); rintro en w1 ⟨rfl, rfl⟩)
  go_ret
  exact ⟨rfl, rfl⟩
set_option maxHeartbeats 400000 in
theorem Cut_off (n : Int) (h : DiskAt w base B k) (ho : k.on = false) : Calls Try.prog 12 #[.pointer (some ⟨B, 0, none⟩), .int .i64 n] w fun e w' => e = .returned (.int .i64 10) ∧ w = w' := by
  have HD := Lib.hid h
  have HON := Lib.hid ho
  clear h ho
  go_enter Try.func12, Try.ntmps12
  go_wp2_with ((refine (check_off HD.out HON.out).mono ?_); rintro en w1 ⟨rfl, rfl⟩)
  go_ret
  exact ⟨rfl, rfl⟩
set_option maxHeartbeats 400000 in
theorem Cut_nil (n : Int) : Calls Try.prog 12 #[.pointer none, .int .i64 n] w fun e w' => e = .returned (.int .i64 1) ∧ w = w' := by
  go_enter Try.func12, Try.ntmps12
  go_wp2_with ((refine check_nil.mono ?_); rintro en w1 ⟨rfl, rfl⟩)
  go_ret
  exact ⟨rfl, rfl⟩
set_option maxHeartbeats 400000 in
theorem Cut_bad (n : Int) (h : DiskAt w base B k) (ho : k.on = true) (hn : n < 0 ∨ (k.s.size : Int) < n) : Calls Try.prog 12 #[.pointer (some ⟨B, 0, none⟩), .int .i64 n] w fun e w' => e = .returned (.int .i64 9) ∧ w = w' := by
  have HD := Lib.hid h
  have HON := Lib.hid ho
  obtain ⟨v, h1, h2⟩ := h
  have c0 : w.cell? ⟨B, 0, none⟩ = some v := h1.cell 0
  obtain ⟨m, hm⟩ : ∃ m, k.s.size = m := ⟨_, rfl⟩
  rw [hm] at h2 hn
  have hv : ∃ a cap, v = .slice a m cap := by
    rcases h2.2 with ⟨rfl, rfl⟩ | ⟨g, cap, cur, rfl, _⟩
    · exact ⟨_, _, rfl⟩
    · exact ⟨_, _, rfl⟩
  obtain ⟨a, cap, rfl⟩ := hv
  clear h1 h2 hm ho
  rcases hn with hn | hn
  · go_enter Try.func12, Try.ntmps12
    go_wp2_with ((refine (check_on HD.out HON.out).mono ?_); rintro en w1 ⟨rfl, rfl⟩)
    go_ret
    exact ⟨rfl, rfl⟩
  · have hn0 : decide (n < 0) = false := by simp; omega
    go_enter Try.func12, Try.ntmps12
    go_wp2_with ((refine (check_on HD.out HON.out).mono ?_); rintro en w1 ⟨rfl, rfl⟩)
    go_ret
    exact ⟨rfl, rfl⟩
set_option maxHeartbeats 400000 in
theorem Cut_good (n : Nat) (h : DiskAt w base B k) (hbw : base ≤ B) (hk : k.ok) (ho : k.on = true) (hn : n ≤ k.s.size) : Calls Try.prog 12 #[.pointer (some ⟨B, 0, none⟩), .int .i64 n] w (DiskP base B w (.int .i64 0) ⟨k.s.extract 0 n, n, true⟩) := by
  have HD := Lib.hid h
  have HK := Lib.hid hk
  have HON := Lib.hid ho
  have HN := Lib.hid hn
  obtain ⟨v, h1, h2⟩ := h
  have c0 : w.cell? ⟨B, 0, none⟩ = some v := h1.cell 0
  obtain ⟨m, hm⟩ : ∃ m, k.s.size = m := ⟨_, rfl⟩
  rw [hm] at h2 hn
  have hv : ∃ a cap, v = .slice a m cap := by
    rcases h2.2 with ⟨rfl, rfl⟩ | ⟨g, cap, cur, rfl, _⟩
    · exact ⟨_, _, rfl⟩
    · exact ⟨_, _, rfl⟩
  obtain ⟨a, cap, rfl⟩ := hv
  clear h1 h2 hk hm ho
  have hn0 : decide ((n : Int) < 0) = false := by simp
  have hn1 : decide ((m : Int) < (n : Int)) = false := by simp; omega
  have hn2 : decide (m < n) = false := by simp; omega
  go_enter Try.func12, Try.ntmps12
  go_wp2_with (first
    | (go_at_call 29; (refine (check_on HD.out HON.out).mono ?_); rintro en w1 ⟨rfl, rfl⟩)
    | (go_at_call 30; (refine (keep_any n HD.out hbw HK.out HN.out).mono ?_); rintro en w1 ⟨rfl, hD1, hB1, hK1⟩; have HD1 := Lib.hid hD1; have HB1 := Lib.hid hB1; have HK1 := Lib.hid hK1; clear hD1 hB1 hK1))
  go_ret
  refine ⟨rfl, ?_, HB1.out, HK1.out⟩
  have := HD1.out
  rw [HON.out] at this
  exact this
set_option maxHeartbeats 400000 in
theorem Wipe_any (h : DiskAt w base B k) (hbw : base ≤ B) (hk : k.ok) : Calls Try.prog 17 #[.pointer (some ⟨B, 0, none⟩)] w (DiskP base B w (.tuple #[]) ⟨ByteArray.empty, 0, k.on⟩) := by
  have HD := Lib.hid h
  have HK := Lib.hid hk
  clear h hk
  go_enter Try.func17, Try.ntmps17
  go_wp2_with ((refine (keep_any 0 HD.out hbw HK.out (Nat.zero_le _)).mono ?_); rintro en w1 ⟨rfl, hD1, hB1, hK1⟩; have HD1 := Lib.hid hD1; have HB1 := Lib.hid hB1; have HK1 := Lib.hid hK1; clear hD1 hB1 hK1)
  refine bodyPost_ret (by simp [results, Try.results17, go_sem]) rfl ⟨rfl, ?_, HB1.out, HK1.out⟩
  have := HD1.out
  have e : k.s.extract 0 0 = ByteArray.empty := by apply Go.WideShapes.bytes_inj; rw [Lib.extract_data]; rfl
  rw [e] at this
  exact this
set_option maxHeartbeats 400000 in
theorem Wipe_nil : Calls Try.prog 17 #[.pointer none] w fun e w' => e = .returned (.tuple #[]) ∧ w = w' := by
  go_enter Try.func17, Try.ntmps17
  go_wp2
  go_end0
  exact ⟨rfl, rfl⟩
set_option maxHeartbeats 400000 in
theorem Start_any (h : DiskAt w base B k) (hbw : base ≤ B) : Calls Try.prog 16 #[.pointer (some ⟨B, 0, none⟩)] w (DiskP base B w (.tuple #[]) ⟨k.s, k.d, true⟩) := by
  obtain ⟨v, h1, h2⟩ := h
  have c2 : w.cell? ⟨B, 2, none⟩ = some (.bool k.on) := h1.cell 2
  have f2 := h1.frozen 2
  have HV := Lib.hid h1
  have HO := Lib.hid h2
  clear h1 h2
  go_enter Try.func16, Try.ntmps16
  go_wp2
  refine bodyPost_ret (by simp [results, Try.results16, go_sem]) rfl ⟨rfl, ⟨v, HV.out.set 2 _ _ rfl, ?_⟩, (Below.refl _ _).setCell (p := ⟨B, 2, none⟩) hbw _, Kept.set (.refl w) HV.out (.inl rfl)⟩
  exact own_block HO.out fun g hg => Below.heap_setCell _ ⟨B, 2, none⟩ _ g (fun e => own_ne HO.out HV.out (by decide) (by rw [hg, e]))
set_option maxHeartbeats 400000 in
theorem Start_nil : Calls Try.prog 16 #[.pointer none] w fun e w' => e = .returned (.tuple #[]) ∧ w = w' := by
  go_enter Try.func16, Try.ntmps16
  go_wp2
  go_end0
  exact ⟨rfl, rfl⟩
end
end Go.Proofs.Ytobmfbafjpbkoaa
