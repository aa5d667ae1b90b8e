/-
  The walks of disk's Append, Read and Crash.
-/
import Derived.Test.YtobmfbafjpbkoaaDiskA
namespace Go.Proofs.Ytobmfbafjpbkoaa
open Go.RowKit Go.Instr

theorem disk_form {w : World} {base m : Nat} {v : Value} {xs : List Value} (h : w.ownsRow base 5 1 v m xs) : ∃ a cap, v = .slice a m cap := by
  rcases h.2 with ⟨rfl, rfl⟩ | ⟨g, cap, cur, rfl, _⟩
  · exact ⟨_, _, rfl⟩
  · exact ⟨_, _, rfl⟩
section
variable {w : World} {base B : Nat} {k : Dk}
set_option maxHeartbeats 400000 in
theorem Append_off (s : ByteArray) (h : DiskAt w base B k) (ho : k.on = false) : Calls Try.prog 18 #[.pointer (some ⟨B, 0, none⟩), .string s] w fun e w' => e = .returned (.int .i64 10) ∧ w = w' := by
  have HD := Lib.hid h
  have HON := Lib.hid ho
  clear h ho
  go_enter Try.func18, Try.ntmps18
  go_wp2_with ((refine (check_off HD.out HON.out).mono ?_); rintro en w1 ⟨rfl, rfl⟩)
  go_ret
  exact ⟨rfl, rfl⟩
set_option maxHeartbeats 400000 in
theorem Append_nil (s : ByteArray) : Calls Try.prog 18 #[.pointer none, .string s] w fun e w' => e = .returned (.int .i64 1) ∧ w = w' := by
  go_enter Try.func18, Try.ntmps18
  go_wp2_with ((refine check_nil.mono ?_); rintro en w1 ⟨rfl, rfl⟩)
  go_ret
  exact ⟨rfl, rfl⟩
set_option maxHeartbeats 400000 in
theorem Append_full (s : ByteArray) (h : DiskAt w base B k) (hk : k.ok) (ho : k.on = true) (hs : s.size ≤ maxLen) (hf : 1048576 < k.s.size + s.size) : Calls Try.prog 18 #[.pointer (some ⟨B, 0, none⟩), .string s] w fun e w' => e = .returned (.int .i64 6) ∧ w = w' := by
  unfold maxLen at hs
  have HD := Lib.hid h
  have HON := Lib.hid ho
  have h20 := hk.2
  obtain ⟨v, h1, h2⟩ := h
  have c0 : w.cell? ⟨B, 0, none⟩ = some v := h1.cell 0
  obtain ⟨m, hm⟩ : ∃ m, k.s.size = m := ⟨_, rfl⟩
  rw [hm] at h2 hf h20
  obtain ⟨a, cap, rfl⟩ := disk_form h2
  clear h1 h2 hk hm ho
  have hd : (1048576 : Int) - (m : Int) < (s.size : Int) := by omega
  go_enter Try.func18, Try.ntmps18
  go_wp2_with ((refine (check_on HD.out HON.out).mono ?_); rintro en w1 ⟨rfl, rfl⟩)
  go_ret
  exact ⟨rfl, rfl⟩
theorem app_map (s t : ByteArray) : (s ++ t).data.toList.map byteV = s.data.toList.map byteV ++ t.data.toList.map byteV := by
  rw [ByteArray.data_append, Array.toList_append, List.map_append]
set_option maxHeartbeats 1000000 in
theorem Append_good (s : ByteArray) (h : DiskAt w base B k) (hbw : base ≤ B) (hk : k.ok) (ho : k.on = true) (hf : k.s.size + s.size ≤ 1048576) : Calls Try.prog 18 #[.pointer (some ⟨B, 0, none⟩), .string s] w (DiskP base B w (.int .i64 0) ⟨k.s ++ s, k.d, true⟩) := by
  have hBw := h.lt
  have HD := Lib.hid h
  have HON := Lib.hid ho
  have HBW := Lib.hid hbw
  have h20 := hk.2
  obtain ⟨v, h1, h2⟩ := h
  have c0 : w.cell? ⟨B, 0, none⟩ = some v := h1.cell 0
  have f0 := h1.frozen 0
  have HV := Lib.hid h1
  have HO := Lib.hid h2
  have HF := Lib.hid hf
  obtain ⟨m, hm⟩ : ∃ m, k.s.size = m := ⟨_, rfl⟩
  rw [hm] at h2 hf h20
  have HM := Lib.hid hm
  obtain ⟨a, cap, rfl⟩ := disk_form h2
  clear h1 h2 hk hm ho
  obtain ⟨i0, hi, hz0, hz1, hz2⟩ := info_parts Try.info5
  have HI := Lib.hid hi
  have HZ0 := Lib.hid hz0
  have HZ1 := Lib.hid hz1
  have HZ2 := Lib.hid hz2
  clear hi hz0 hz1 hz2
  have hd : decide ((1048576 : Int) - (m : Int) < (s.size : Int)) = false := by simp; omega
  have HBw := Lib.hid hBw
  clear hBw
  go_enter Try.func18, Try.ntmps18
  go_wp2_with (first
    | (go_at_call 29; (refine (check_on HD.out HON.out).mono ?_); rintro en w1 ⟨rfl, rfl⟩)
    | (at_builtin; go_loud (refine Lib.wpList_append_own_string _ rfl (.tmp 24) (.tmp 25) 38 9 rfl base 5 i0 Try.underlying38 Try.underlying9 HI.out HZ0.out HZ1.out HZ2.out _ m (k.s.data.toList.map byteV) rfl (by have := HO.out; rw [HM.out] at this; exact this) s rfl (by unfold maxLen; omega) (by omega) (by have := HBw.out; omega) ?_; intro v5 w5 hown5 hgrow5 hnil5; obtain ⟨a5, cap5, rfl⟩ := disk_form hown5; have HOWN5 := Lib.hid hown5; have HGR5 := Lib.hid hgrow5; have HV5 : Hid (Blk w5 B #[.slice a m cap, .int .i64 k.d, .bool k.on] 62) := Lib.hid (HV.out.grown hgrow5 (fun e => own_ne HO.out HV.out (by decide) e.symm)); have c0 : w5.cell? ⟨B, 0, none⟩ = some (.slice a m cap) := HV5.out.cell 0; have f0 := HV5.out.frozen 0; clear hown5 hgrow5 hnil5)))
  go_ret
  have hO : w.ownsRow base 5 1 (.slice a m cap) m (k.s.data.toList.map byteV) := by have := HO.out; rw [HM.out] at this; exact this
  have hbw := HBW.out
  refine ⟨rfl, ⟨.slice a5 (m + s.size) cap5, ?_, ?_⟩, ?_, ?_⟩
  · have := HV5.out.set 0 (.slice a5 (m + s.size) cap5) _ rfl
    rw [HON.out] at this
    exact this
  · have e : (k.s ++ s).size = m + s.size := by rw [ByteArray.size_append, HM.out]
    show World.ownsRow _ base 5 1 (.slice a5 (m + s.size) cap5) (k.s ++ s).size ((k.s ++ s).data.toList.map byteV)
    rw [e, app_map]
    exact own_block HOWN5.out fun g hg => Below.heap_setCell _ ⟨B, 0, none⟩ _ g (fun e => own_ne HOWN5.out HV5.out (by decide) (by rw [hg, e]))
  · exact ((Below.refl base w).grown HGR5.out (by have := HBw.out; omega) (fun j hj => (World.ownsRow.lt hO j hj).1)).setCell (p := ⟨B, 0, none⟩) hbw _
  · exact Kept.set (Kept.grown hO HGR5.out) HV5.out (.inl rfl)
set_option maxHeartbeats 400000 in
theorem Read_off (h : DiskAt w base B k) (ho : k.on = false) : Calls Try.prog 20 #[.pointer (some ⟨B, 0, none⟩)] w fun e w' => e = .returned (.tuple #[.string ByteArray.empty, .int .i64 10]) ∧ w = w' := by
  have HD := Lib.hid h
  have HON := Lib.hid ho
  clear h ho
  go_enter Try.func20, Try.ntmps20
  go_wp2_with ((refine (check_off HD.out HON.out).mono ?_); rintro en w1 ⟨rfl, rfl⟩)
  go_ret2
  exact ⟨rfl, rfl⟩
set_option maxHeartbeats 400000 in
theorem Read_nil : Calls Try.prog 20 #[.pointer none] w fun e w' => e = .returned (.tuple #[.string ByteArray.empty, .int .i64 1]) ∧ w = w' := by
  go_enter Try.func20, Try.ntmps20
  go_wp2_with ((refine check_nil.mono ?_); rintro en w1 ⟨rfl, rfl⟩)
  go_ret2
  exact ⟨rfl, rfl⟩
theorem read_conv {w : World} {v : Value} {s : ByteArray} (h : w.ownsRow base 5 1 v s.size (s.data.toList.map byteV)) : (convert 38 9 v).run Try.prog w = .ok (.string s) w := by
  rcases h.2 with ⟨rfl, h0⟩ | ⟨g, cap, cur, rfl, _⟩
  · have e : s = ⟨#[]⟩ := by
      apply Go.WideShapes.bytes_inj
      have : s.data.toList.length = 0 := h0
      exact List.eq_nil_of_length_eq_zero this
    subst e
    go_simp
    rfl
  · have hc : ∀ j (hj : j < s.data.toList.length), w.cell? ⟨g, j, none⟩ = some (.int .u8 (s.data.toList[j].toNat : Int)) := by
      intro j hj
      have := World.ownsRow.cells h (g := g) rfl j _ (List.getElem?_eq_getElem (by simpa using hj))
      have e : (⟨g, 0, none⟩ : Addr).add j = ⟨g, j, none⟩ := by unfold Addr.add; split <;> simp_all
      rw [e] at this
      simpa [byteV] using this
    have := run_convert_bytes_back w 38 9 5 ⟨g, 0, none⟩ cap s.data.toList Try.underlying38 Try.underlying5 Try.underlying9 (fun j hj => by
      have e : (⟨g, 0, none⟩ : Addr).add j = ⟨g, j, none⟩ := by unfold Addr.add; split <;> simp_all
      rw [e]; exact hc j hj)
    exact this
set_option maxHeartbeats 400000 in
theorem Read_on (h : DiskAt w base B k) (ho : k.on = true) : Calls Try.prog 20 #[.pointer (some ⟨B, 0, none⟩)] w fun e w' => e = .returned (.tuple #[.string k.s, .int .i64 0]) ∧ w = w' := by
  have HD := Lib.hid h
  have HON := Lib.hid ho
  obtain ⟨v, h1, h2⟩ := h
  have c0 : w.cell? ⟨B, 0, none⟩ = some v := h1.cell 0
  have hconv := read_conv h2
  clear h1 h2 ho
  go_enter Try.func20, Try.ntmps20
  go_wp2_with ((refine (check_on HD.out HON.out).mono ?_); rintro en w1 ⟨rfl, rfl⟩)
  go_ret2
  exact ⟨rfl, rfl⟩
def crashN (k : Dk) (n : Int) : Nat := k.d + (max 0 (min n ((k.s.size : Int) - (k.d : Int)))).toNat
theorem crashN_le (k : Dk) (n : Int) (hk : k.ok) : crashN k n ≤ k.s.size := by
  have := hk.1
  unfold crashN; omega
set_option maxHeartbeats 400000 in
theorem Crash_off (n : Int) (h : DiskAt w base B k) (ho : k.on = false) : Calls Try.prog 14 #[.pointer (some ⟨B, 0, none⟩), .int .i64 n] w fun e w' => e = .returned (.tuple #[]) ∧ w = w' := by
  have HD := Lib.hid h
  have HON := Lib.hid ho
  clear h ho
  go_enter Try.func14, Try.ntmps14
  go_wp2_with ((refine (On_any HD.out).mono ?_); rw [HON.out]; rintro en w1 ⟨rfl, rfl⟩)
  exact bodyPost_ret (v := .tuple #[]) (by simp [results, Try.results14, go_sem]) rfl ⟨rfl, rfl⟩
set_option maxHeartbeats 400000 in
theorem Crash_nil (n : Int) : Calls Try.prog 14 #[.pointer none, .int .i64 n] w fun e w' => e = .returned (.tuple #[]) ∧ w = w' := by
  go_enter Try.func14, Try.ntmps14
  go_wp2_with ((refine On_nil.mono ?_); rintro en w1 ⟨rfl, rfl⟩)
  exact bodyPost_ret (v := .tuple #[]) (by simp [results, Try.results14, go_sem]) rfl ⟨rfl, rfl⟩
theorem keep_at {i : Int} (n : Nat) (hi : i = n) (h : DiskAt w base B k) (hbw : base ≤ B) (hk : k.ok) (hn : n ≤ k.s.size) : Calls Try.prog 30 #[.pointer (some ⟨B, 0, none⟩), .int .i64 i] w (DiskP base B w (.tuple #[]) ⟨k.s.extract 0 n, n, k.on⟩) := by
  subst hi; exact keep_any n h hbw hk hn
set_option maxHeartbeats 1000000 in
theorem Crash_on (n : Int) (h : DiskAt w base B k) (hbw : base ≤ B) (hk : k.ok) (ho : k.on = true) (hn1 : -9223372036854775808 ≤ n) (hn2 : n ≤ 9223372036854775807) : Calls Try.prog 14 #[.pointer (some ⟨B, 0, none⟩), .int .i64 n] w (DiskP base B w (.tuple #[]) ⟨k.s.extract 0 (crashN k n), crashN k n, false⟩) := by
  have HD := Lib.hid h
  have HK := Lib.hid hk
  have HON := Lib.hid ho
  have HC := Lib.hid (crashN_le k n hk)
  have hd := hk.1
  have h20 := hk.2
  obtain ⟨v, h1, h2⟩ := h
  have c0 : w.cell? ⟨B, 0, none⟩ = some v := h1.cell 0
  have c1 : w.cell? ⟨B, 1, none⟩ = some (.int .i64 k.d) := h1.cell 1
  obtain ⟨m, hm⟩ : ∃ m, k.s.size = m := ⟨_, rfl⟩
  rw [hm] at h2 hd h20
  have HM := Lib.hid hm
  obtain ⟨a, cap, rfl⟩ := disk_form h2
  clear h1 h2 hk hm ho
  have hcase : ((m : Int) - (k.d : Int) < n ∧ k.d < m) ∨ ((m : Int) - (k.d : Int) < n ∧ k.d = m) ∨ (n ≤ (m : Int) - (k.d : Int) ∧ 0 < n) ∨ (n ≤ (m : Int) - (k.d : Int) ∧ n ≤ 0) := by omega
  rcases hcase with ⟨q1, q2⟩ | ⟨q1, q2⟩ | ⟨q1, q2⟩ | ⟨q1, q2⟩
  all_goals
    have HQ2 := Lib.hid q2
    try have q3 : ¬ k.d < m := by omega
    try have q4 : ¬ (m : Int) - (k.d : Int) < n := by omega
    try have q5 : ¬ 0 < n := by omega
    try clear q2
    have q6 := HQ2.out
    try (have q7 : k.d = m := q6; clear q6)
    try clear q7
    go_enter Try.func14, Try.ntmps14
    go_wp2_with (first
      | (go_at_call 21; (refine (On_any HD.out).mono ?_); rw [HON.out]; rintro en w1 ⟨rfl, rfl⟩)
      | (go_at_call 30; (refine (keep_at (crashN k n) (by have hM := HM.out; have h2 := HQ2.out; unfold crashN; rw [hM]; omega) ((HD.out).on (Below.drew (Below.refl _ _))) hbw HK.out HC.out).mono ?_); rintro en w1 ⟨rfl, hD1, hB1, hK1⟩; have HD1 := Lib.hid hD1; have HB1 := Lib.hid hB1; have HK1 := Lib.hid hK1; clear hD1 hB1 hK1))
    go_region
    go_wp2_with (first
      | (go_at_call 30; (refine (keep_at (crashN k n) (by have hM := HM.out; have h2 := HQ2.out; unfold crashN; rw [hM]; omega) ((HD.out).on (Below.drew (Below.refl _ _))) hbw HK.out HC.out).mono ?_); rintro en w1 ⟨rfl, hD1, hB1, hK1⟩; have HD1 := Lib.hid hD1; have HB1 := Lib.hid hB1; have HK1 := Lib.hid hK1; obtain ⟨v9, hv9, ho9⟩ := hD1; have c2 := hv9.cell 2; have f2 := hv9.frozen 2; have HV9 := Lib.hid hv9; have HO9 := Lib.hid ho9; clear hB1 hK1 hv9 ho9; simp at c2))
    refine bodyPost_ret (v := .tuple #[]) (by simp [results, Try.results14, go_sem]) rfl ⟨rfl, ⟨v9, HV9.out.set 2 _ _ rfl, ?_⟩, ?_, ?_⟩
    · exact own_block HO9.out fun g hg => Below.heap_setCell _ ⟨B, 2, none⟩ _ g (fun e => own_ne HO9.out HV9.out (by decide) (by rw [hg, e]))
    · exact (((Below.refl base w).drew).trans HB1.out).setCell (p := ⟨B, 2, none⟩) hbw _
    · exact Kept.set ((Kept.of_below (Below.drew (Below.refl _ _))).trans HK1.out) HV9.out (.inl rfl)
end
end Go.Proofs.Ytobmfbafjpbkoaa
