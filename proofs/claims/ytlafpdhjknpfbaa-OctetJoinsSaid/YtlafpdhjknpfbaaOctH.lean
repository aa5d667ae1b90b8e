/-
  The walks of the law's 'told' and of the reference's Fits, Num and Join.
-/
import Derived.Test.YtlafpdhjknpfbaaOctS
namespace Go.Proofs.Ytlafpdhjknpfbaa
open Go.RowKit Go.Instr

set_option maxHeartbeats 400000 in
theorem num_exact (n : Nat) (z : Int) (w : World) : Calls Try.prog 21 #[.int .u64 n, .int .i64 z] w fun e w' => e = .returned (.agg #[.int .i64 1, .int .u64 n, .int .i64 z, .string ⟨#[]⟩]) ∧ w' = w.alloc (.cells #[.int .i64 1, .int .u64 n, .int .i64 z, .string ⟨#[]⟩] 30) := by
  go_enter Try.func21, Try.ntmps21
  go_wp2
  exact bodyPost_ret (v := (PartV.mk 1 n z ⟨#[]⟩).val) (by simp [results, Try.results21, go_sem]; rfl) rfl ⟨rfl, rfl⟩
set_option maxHeartbeats 400000 in
theorem text_exact (s : ByteArray) (w : World) : Calls Try.prog 30 #[.string s] w fun e w' => e = .returned (.agg #[.int .i64 2, .int .u64 0, .int .i64 0, .string s]) ∧ w' = w.alloc (.cells #[.int .i64 2, .int .u64 0, .int .i64 0, .string s] 30) := by
  go_enter Try.func30, Try.ntmps30
  go_wp2
  exact bodyPost_ret (v := (PartV.mk 2 0 0 s).val) (by simp [results, Try.results30, go_sem]; rfl) rfl ⟨rfl, rfl⟩
set_option maxHeartbeats 400000 in
theorem raw_exact (s : ByteArray) (w : World) : Calls Try.prog 31 #[.string s] w fun e w' => e = .returned (.agg #[.int .i64 3, .int .u64 0, .int .i64 0, .string s]) ∧ w' = w.alloc (.cells #[.int .i64 3, .int .u64 0, .int .i64 0, .string s] 30) := by
  go_enter Try.func31, Try.ntmps31
  go_wp2
  exact bodyPost_ret (v := (PartV.mk 3 0 0 s).val) (by simp [results, Try.results31, go_sem]; rfl) rfl ⟨rfl, rfl⟩
def pairV (k : Int) (n : Nat) (z : Int) (s : ByteArray) (k2 z2 : Int) (n2 : Nat) (s2 : ByteArray) : Value :=
  .tuple #[.agg #[.int .i64 k, .int .u64 n, .int .i64 z, .string s], .agg #[.int .i64 k2, .int .i64 z2, .int .u64 n2, .string s2]]
set_option maxRecDepth 100000 in
set_option maxHeartbeats 1000000 in
theorem told_zero (k z q : Int) (n : Nat) (s : ByteArray) (w : World) (hq : k.tmod 16 = q) (hb : -15 ≤ q ∧ q ≤ 15) (hr : (q + 16) % 16 = 0) :
    Calls Try.prog 11 #[.agg #[.int .i64 k, .int .i64 z, .int .u64 n, .string s]] w fun e w' => e = .returned (pairV 0 0 0 ⟨#[]⟩ 0 z n s) ∧ Below w.heap.size w w' := by
  obtain ⟨hb1, hb2⟩ := hb
  go_enter Try.func11, Try.ntmps11
  go_wp2
  go_region
  go_wp2
  exact bodyPost_ret (v := pairV 0 0 0 ⟨#[]⟩ 0 z n s) (by simp [results, Try.results11, go_sem]; rfl) rfl ⟨rfl, by go_grown⟩
set_option maxRecDepth 100000 in
set_option maxHeartbeats 1000000 in
theorem told_num (k z q r : Int) (n : Nat) (s : ByteArray) (w : World) (hq : k.tmod 16 = q) (hb : -15 ≤ q ∧ q ≤ 15) (hr : (q + 16) % 16 = r) (hr0 : (r == 0) = false) (hr3 : r % 3 = 1) (_hrp : 0 ≤ r) :
    Calls Try.prog 11 #[.agg #[.int .i64 k, .int .i64 z, .int .u64 n, .string s]] w fun e w' => e = .returned (pairV 1 n z ⟨#[]⟩ 1 z n s) ∧ Below w.heap.size w w' := by
  obtain ⟨hb1, hb2⟩ := hb
  go_enter Try.func11, Try.ntmps11
  go_wp2
  go_region_with (go_at_call 21; refine (num_exact _ _ _).mono ?_; rintro e w1 ⟨rfl, rfl⟩)
  all_goals
    go_wp2
    exact bodyPost_ret (v := pairV 1 n z ⟨#[]⟩ 1 z n s) (by simp [results, Try.results11, go_sem]; rfl) rfl ⟨rfl, by go_grown⟩
set_option maxRecDepth 100000 in
set_option maxHeartbeats 1000000 in
theorem told_text (k z q r : Int) (n : Nat) (s : ByteArray) (w : World) (hq : k.tmod 16 = q) (hb : -15 ≤ q ∧ q ≤ 15) (hr : (q + 16) % 16 = r) (hr0 : (r == 0) = false) (hr3 : r % 3 = 2) (_hrp : 0 ≤ r) :
    Calls Try.prog 11 #[.agg #[.int .i64 k, .int .i64 z, .int .u64 n, .string s]] w fun e w' => e = .returned (pairV 2 0 0 s 2 z n s) ∧ Below w.heap.size w w' := by
  obtain ⟨hb1, hb2⟩ := hb
  go_enter Try.func11, Try.ntmps11
  go_wp2
  go_region_with (go_at_call 30; refine (text_exact _ _).mono ?_; rintro e w1 ⟨rfl, rfl⟩)
  all_goals
    go_wp2
    exact bodyPost_ret (v := pairV 2 0 0 s 2 z n s) (by simp [results, Try.results11, go_sem]; rfl) rfl ⟨rfl, by go_grown⟩
set_option maxRecDepth 100000 in
set_option maxHeartbeats 1000000 in
theorem told_raw (k z q r : Int) (n : Nat) (s : ByteArray) (w : World) (hq : k.tmod 16 = q) (hb : -15 ≤ q ∧ q ≤ 15) (hr : (q + 16) % 16 = r) (hr0 : (r == 0) = false) (hr3 : r % 3 = 0) (_hrp : 0 ≤ r) :
    Calls Try.prog 11 #[.agg #[.int .i64 k, .int .i64 z, .int .u64 n, .string s]] w fun e w' => e = .returned (pairV 3 0 0 s 3 z n s) ∧ Below w.heap.size w w' := by
  obtain ⟨hb1, hb2⟩ := hb
  go_enter Try.func11, Try.ntmps11
  go_wp2
  go_region_with (go_at_call 31; refine (raw_exact _ _).mono ?_; rintro e w1 ⟨rfl, rfl⟩)
  all_goals
    go_wp2
    exact bodyPost_ret (v := pairV 3 0 0 s 3 z n s) (by simp [results, Try.results11, go_sem]; rfl) rfl ⟨rfl, by go_grown⟩
/-- The kind that told chooses: 0 none, 1 a number, 2 a text, 3 bytes. -/
def kindOf (k : Int) : Int := if (k.tmod 16 + 16) % 16 = 0 then 0 else if (k.tmod 16 + 16) % 16 % 3 = 1 then 1 else if (k.tmod 16 + 16) % 16 % 3 = 2 then 2 else 3
/-- The program's part of a kind, a number, a size and a text. -/
def mkP (kk : Int) (n : Nat) (z : Int) (s : ByteArray) : PartV := if kk = 0 then ⟨0, 0, 0, ⟨#[]⟩⟩ else if kk = 1 then ⟨1, n, z, ⟨#[]⟩⟩ else ⟨kk, 0, 0, s⟩
theorem kindOf_range (k : Int) : 0 ≤ kindOf k ∧ kindOf k ≤ 3 := by
  unfold kindOf
  split
  · omega
  · split
    · omega
    · split <;> omega
theorem told_any (k z : Int) (n : Nat) (s : ByteArray) (w : World) :
    Calls Try.prog 11 #[.agg #[.int .i64 k, .int .i64 z, .int .u64 n, .string s]] w fun e w' => e = .returned (.tuple #[(mkP (kindOf k) n z s).val, .agg #[.int .i64 (kindOf k), .int .i64 z, .int .u64 n, .string s]]) ∧ Below w.heap.size w w' := by
  have hb : -15 ≤ k.tmod 16 ∧ k.tmod 16 ≤ 15 := by
    have h1 := Int.tmod_lt_of_pos k (show (0 : Int) < 16 by decide)
    have h2 : -16 < k.tmod 16 := Int.lt_tmod_of_pos k (by decide)
    omega
  obtain ⟨r, hr⟩ : ∃ r, (k.tmod 16 + 16) % 16 = r := ⟨_, rfl⟩
  have hrp : 0 ≤ r := by rw [← hr]; exact Int.emod_nonneg _ (by decide)
  unfold kindOf
  rw [hr]
  by_cases h0 : r = 0
  · rw [if_pos h0]
    subst h0
    exact told_zero k z _ n s w rfl hb hr
  · rw [if_neg h0]
    have hr0 : (r == 0) = false := by simpa using h0
    by_cases h1 : r % 3 = 1
    · rw [if_pos h1]
      exact told_num k z _ r n s w rfl hb hr hr0 h1 hrp
    · rw [if_neg h1]
      by_cases h2 : r % 3 = 2
      · rw [if_pos h2]
        exact told_text k z _ r n s w rfl hb hr hr0 h2 hrp
      · rw [if_neg h2]
        exact told_raw k z _ r n s w rfl hb hr hr0 (by omega) hrp
end Go.Proofs.Ytlafpdhjknpfbaa
