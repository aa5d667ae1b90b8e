/-
  The walks of the reference's disk: Append, Sync, Cut, Crash.
-/
import Derived.Test.YtobmfbafjpbkoaaDiskB
namespace Go.Proofs.Ytobmfbafjpbkoaa
open Go.RowKit Go.Instr

/-- A disk of the reference: what lasts, what does not yet, whether the power is off. -/
structure Rd where
  a : ByteArray
  b : ByteArray
  off : Bool
def Rd.val (r : Rd) : Value := .agg #[.string r.a, .string r.b, .bool r.off]
def Rd.fine (r : Rd) : Prop := r.a.size + r.b.size ≤ 1048576
/-- The disk that is the same. -/
def Rd.dk (r : Rd) : Dk := ⟨r.a ++ r.b, r.a.size, !r.off⟩
theorem Rd.dk_ok (r : Rd) (h : r.fine) : r.dk.ok := by
  unfold Rd.dk Dk.ok
  simp only [ByteArray.size_append]
  exact ⟨by omega, h⟩
theorem Rd.eta (r : Rd) : r = ⟨r.a, r.b, r.off⟩ := rfl
set_option maxHeartbeats 400000 in
theorem refSync_off (a b : ByteArray) (w : World) : Calls Try.prog 11 #[.agg #[.string a, .string b, .bool true]] w fun e w' => e = .returned (.tuple #[.agg #[.string a, .string b, .bool true], .int .i64 10]) ∧ Below w.heap.size w w' := by
  go_enter Try.func11, Try.ntmps11
  go_wp2
  exact bodyPost_ret (v := .tuple #[.agg #[.string a, .string b, .bool true], .int .i64 10]) (by simp [results, Try.results11, go_sem]) rfl ⟨rfl, by go_grown⟩
set_option maxHeartbeats 400000 in
theorem refSync_on (a b : ByteArray) (w : World) (h : a.size + b.size ≤ 1048576) : Calls Try.prog 11 #[.agg #[.string a, .string b, .bool false]] w fun e w' => e = .returned (.tuple #[.agg #[.string (a ++ b), .string ⟨#[]⟩, .bool false], .int .i64 0]) ∧ Below w.heap.size w w' := by
  go_enter Try.func11, Try.ntmps11
  go_wp2
  exact bodyPost_ret (v := .tuple #[.agg #[.string (a ++ b), .string ⟨#[]⟩, .bool false], .int .i64 0]) (by simp [results, Try.results11, go_sem]) rfl ⟨rfl, by go_grown⟩
set_option maxHeartbeats 400000 in
theorem refApp_off (a b s : ByteArray) (w : World) : Calls Try.prog 19 #[.agg #[.string a, .string b, .bool true], .string s] w fun e w' => e = .returned (.tuple #[.agg #[.string a, .string b, .bool true], .int .i64 10]) ∧ Below w.heap.size w w' := by
  go_enter Try.func19, Try.ntmps19
  go_wp2
  exact bodyPost_ret (v := .tuple #[.agg #[.string a, .string b, .bool true], .int .i64 10]) (by simp [results, Try.results19, go_sem]) rfl ⟨rfl, by go_grown⟩
set_option maxHeartbeats 400000 in
theorem refApp_full (a b s : ByteArray) (w : World) (h : a.size + b.size ≤ 1048576) (hs : s.size ≤ 1048576) (hf : 1048576 < a.size + b.size + s.size) : Calls Try.prog 19 #[.agg #[.string a, .string b, .bool false], .string s] w fun e w' => e = .returned (.tuple #[.agg #[.string a, .string b, .bool false], .int .i64 6]) ∧ Below w.heap.size w w' := by
  go_enter Try.func19, Try.ntmps19
  go_wp2
  exact bodyPost_ret (v := .tuple #[.agg #[.string a, .string b, .bool false], .int .i64 6]) (by simp [results, Try.results19, go_sem]) rfl ⟨rfl, by go_grown⟩
set_option maxHeartbeats 400000 in
theorem refApp_good (a b s : ByteArray) (w : World) (hf : a.size + b.size + s.size ≤ 1048576) : Calls Try.prog 19 #[.agg #[.string a, .string b, .bool false], .string s] w fun e w' => e = .returned (.tuple #[.agg #[.string a, .string (b ++ s), .bool false], .int .i64 0]) ∧ Below w.heap.size w w' := by
  go_enter Try.func19, Try.ntmps19
  go_wp2
  exact bodyPost_ret (v := .tuple #[.agg #[.string a, .string (b ++ s), .bool false], .int .i64 0]) (by simp [results, Try.results19, go_sem]) rfl ⟨rfl, by go_grown⟩
set_option maxHeartbeats 400000 in
theorem refCut_off (a b : ByteArray) (n : Int) (w : World) (h : a.size + b.size ≤ 1048576) : Calls Try.prog 13 #[.agg #[.string a, .string b, .bool true], .int .i64 n] w fun e w' => e = .returned (.tuple #[.agg #[.string a, .string b, .bool true], .int .i64 10]) ∧ Below w.heap.size w w' := by
  go_enter Try.func13, Try.ntmps13
  go_wp2
  exact bodyPost_ret (v := .tuple #[.agg #[.string a, .string b, .bool true], .int .i64 10]) (by simp [results, Try.results13, go_sem]) rfl ⟨rfl, by go_grown⟩
set_option maxHeartbeats 400000 in
theorem refCut_bad (a b : ByteArray) (n : Int) (w : World) (h : a.size + b.size ≤ 1048576) (hn : n < 0 ∨ ((a.size + b.size : Nat) : Int) < n) : Calls Try.prog 13 #[.agg #[.string a, .string b, .bool false], .int .i64 n] w fun e w' => e = .returned (.tuple #[.agg #[.string a, .string b, .bool false], .int .i64 9]) ∧ Below w.heap.size w w' := by
  rcases hn with hn | hn
  · go_enter Try.func13, Try.ntmps13
    go_wp2
    exact bodyPost_ret (v := .tuple #[.agg #[.string a, .string b, .bool false], .int .i64 9]) (by simp [results, Try.results13, go_sem]) rfl ⟨rfl, by go_grown⟩
  · have hn0 : decide (n < 0) = false := by simp; omega
    have hsz : (a ++ b).size = a.size + b.size := ByteArray.size_append
    go_enter Try.func13, Try.ntmps13
    go_wp2
    exact bodyPost_ret (v := .tuple #[.agg #[.string a, .string b, .bool false], .int .i64 9]) (by simp [results, Try.results13, go_sem]) rfl ⟨rfl, by go_grown⟩
set_option maxHeartbeats 400000 in
theorem refCut_good (a b : ByteArray) (n : Nat) (w : World) (h : a.size + b.size ≤ 1048576) (hn : n ≤ a.size + b.size) : Calls Try.prog 13 #[.agg #[.string a, .string b, .bool false], .int .i64 n] w fun e w' => e = .returned (.tuple #[.agg #[.string ((a ++ b).extract 0 n), .string ⟨#[]⟩, .bool false], .int .i64 0]) ∧ Below w.heap.size w w' := by
  obtain ⟨s, hs⟩ : ∃ s, s = a ++ b := ⟨_, rfl⟩
  have hsz : s.size = a.size + b.size := by rw [hs]; exact ByteArray.size_append
  have hn1 : decide (s.size < n) = false := by simp; omega
  rw [← hs]
  have hn2 : n ≤ s.size := by omega
  have HSZ := Lib.hid hsz
  clear hsz
  go_enter Try.func13, Try.ntmps13
  go_wp2
  exact bodyPost_ret (v := .tuple #[.agg #[.string (s.extract 0 n), .string ⟨#[]⟩, .bool false], .int .i64 0]) (by simp [results, Try.results13, go_sem]; rw [hs]) rfl ⟨rfl, by go_grown⟩
def crashR (b : ByteArray) (n : Int) : Nat := (max 0 (min n b.size)).toNat
set_option maxHeartbeats 400000 in
theorem refCrash_off (a b : ByteArray) (n : Int) (w : World) : Calls Try.prog 15 #[.agg #[.string a, .string b, .bool true], .int .i64 n] w fun e w' => e = .returned (.agg #[.string a, .string b, .bool true]) ∧ Below w.heap.size w w' := by
  go_enter Try.func15, Try.ntmps15
  go_wp2
  exact bodyPost_ret (v := .agg #[.string a, .string b, .bool true]) (by simp [results, Try.results15, go_sem]) rfl ⟨rfl, by go_grown⟩
set_option maxHeartbeats 1000000 in
theorem refCrash_on (a b : ByteArray) (n : Int) (w : World) (h : a.size + b.size ≤ 1048576) : Calls Try.prog 15 #[.agg #[.string a, .string b, .bool false], .int .i64 n] w fun e w' => e = .returned (.agg #[.string (a ++ b.extract 0 (crashR b n)), .string ⟨#[]⟩, .bool true]) ∧ Below w.heap.size w w' := by
  have hcase : n < 0 ∨ (0 ≤ n ∧ (b.size : Int) < n) ∨ (0 ≤ n ∧ n ≤ (b.size : Int)) := by omega
  rcases hcase with q | ⟨q, q1⟩ | ⟨q, q1⟩
  · have hc : crashR b n = 0 := by unfold crashR; omega
    rw [hc]
    have q2 : ¬ b.size < 0 := by omega
    go_enter Try.func15, Try.ntmps15
    go_wp2
    go_region
    go_wp2
    exact bodyPost_ret (v := .agg #[.string (a ++ b.extract 0 0), .string ⟨#[]⟩, .bool true]) (by simp [results, Try.results15, go_sem]) rfl ⟨rfl, by go_grown⟩
  · have hc : crashR b n = b.size := by unfold crashR; omega
    rw [hc]
    have q2 : decide (n < 0) = false := by simp; omega
    go_enter Try.func15, Try.ntmps15
    go_wp2
    go_region
    go_wp2
    exact bodyPost_ret (v := .agg #[.string (a ++ b.extract 0 b.size), .string ⟨#[]⟩, .bool true]) (by simp [results, Try.results15, go_sem]) rfl ⟨rfl, by go_grown⟩
  · obtain ⟨k, rfl⟩ := Int.eq_ofNat_of_zero_le q
    have hc : crashR b k = k := by unfold crashR; omega
    rw [hc]
    have q2 : decide ((k : Int) < 0) = false := by simp
    have q3 : decide ((b.size : Int) < k) = false := by simp; omega
    have q4 : decide (b.size < k) = false := by simp; omega
    go_enter Try.func15, Try.ntmps15
    go_wp2
    go_region
    go_wp2
    exact bodyPost_ret (v := .agg #[.string (a ++ b.extract 0 k), .string ⟨#[]⟩, .bool true]) (by simp [results, Try.results15, go_sem]) rfl ⟨rfl, by go_grown⟩
end Go.Proofs.Ytobmfbafjpbkoaa
