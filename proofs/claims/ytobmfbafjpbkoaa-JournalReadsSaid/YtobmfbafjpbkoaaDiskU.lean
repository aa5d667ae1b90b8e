/-
  The disk's calls and the reference's, by one answer for both.
-/
import Derived.Test.YtobmfbafjpbkoaaPlaysM
namespace Go.Proofs.Ytobmfbafjpbkoaa
open Go.RowKit Go.Instr

theorem rd_dk_eq {a b : ByteArray} {off : Bool} {k : Dk} (h1 : a ++ b = k.s) (h2 : a.size = k.d) (h3 : (!off) = k.on) : (⟨a, b, off⟩ : Rd).dk = k := dk_eq h1 h2 h3
theorem emp0 (a : ByteArray) : a ++ ⟨#[]⟩ = a := app_emp a
def syncR (r : Rd) : Rd := if r.off = true then r else ⟨r.a ++ r.b, ⟨#[]⟩, false⟩
def syncE (r : Rd) : Int := if r.off = true then 10 else 0
def cutR (r : Rd) (n : Int) : Rd := if r.off = true then r else if n < 0 ∨ ((r.a.size + r.b.size : Nat) : Int) < n then r else ⟨(r.a ++ r.b).extract 0 n.toNat, ⟨#[]⟩, false⟩
def cutE (r : Rd) (n : Int) : Int := if r.off = true then 10 else if n < 0 ∨ ((r.a.size + r.b.size : Nat) : Int) < n then 9 else 0
def crashRd (r : Rd) (n : Int) : Rd := if r.off = true then r else ⟨r.a ++ r.b.extract 0 (crashR r.b n), ⟨#[]⟩, true⟩
def appR (r : Rd) (s : ByteArray) : Rd := if r.off = true then r else if 1048576 < r.a.size + r.b.size + s.size then r else ⟨r.a, r.b ++ s, false⟩
def appE (r : Rd) (s : ByteArray) : Int := if r.off = true then 10 else if 1048576 < r.a.size + r.b.size + s.size then 6 else 0
theorem sync_fine {r : Rd} (h : r.fine) : (syncR r).fine := by
  unfold syncR
  split
  · exact h
  · unfold Rd.fine at *
    simp only [ByteArray.size_append]
    exact h
theorem cut_fine {r : Rd} (n : Int) (h : r.fine) : (cutR r n).fine := by
  unfold cutR
  split
  · exact h
  · split
    · exact h
    · unfold Rd.fine at *
      simp only [ByteArray.size_extract, ByteArray.size_append]
      have : (⟨#[]⟩ : ByteArray).size = 0 := rfl
      omega
theorem crash_fine {r : Rd} (n : Int) (h : r.fine) : (crashRd r n).fine := by
  unfold crashRd
  split
  · exact h
  · unfold Rd.fine at *
    simp only [ByteArray.size_extract, ByteArray.size_append]
    have : (⟨#[]⟩ : ByteArray).size = 0 := rfl
    omega
theorem app_fine {r : Rd} (s : ByteArray) (h : r.fine) : (appR r s).fine := by
  unfold appR
  split
  · exact h
  · split
    · exact h
    · unfold Rd.fine at *
      simp only [ByteArray.size_append]
      omega
section
variable {w : World} {base B : Nat} {r : Rd}
theorem dSync (h : DiskAt w base B r.dk) (hbw : base ≤ B) (hf : r.fine) : Calls Try.prog 10 #[.pointer (some ⟨B, 0, none⟩)] w (DiskP base B w (.int .i64 (syncE r)) (syncR r).dk) := by
  have hlt := h.lt
  obtain ⟨a, b, off⟩ := r
  cases off with
  | true => exact (Sync_off h rfl).mono fun e w' ⟨h1, h2⟩ => by subst h1; exact DiskP.quiet (by omega) h (below_eq h2)
  | false =>
    refine (Sync_on h hbw (Rd.dk_ok _ hf) rfl).mono fun e w' hP => hP.is ?_
    refine (rd_dk_eq ?_ rfl rfl).symm
    exact emp0 _
theorem rSync (r : Rd) (w : World) (hf : r.fine) : Calls Try.prog 11 #[.agg #[.string r.a, .string r.b, .bool r.off]] w fun e w' => e = .returned (.tuple #[.agg #[.string (syncR r).a, .string (syncR r).b, .bool (syncR r).off], .int .i64 (syncE r)]) ∧ Below w.heap.size w w' := by
  obtain ⟨a, b, off⟩ := r
  cases off with
  | true => exact refSync_off a b w
  | false => exact refSync_on a b w hf
theorem dCut (n : Int) (h : DiskAt w base B r.dk) (hbw : base ≤ B) (hf : r.fine) : Calls Try.prog 12 #[.pointer (some ⟨B, 0, none⟩), .int .i64 n] w (DiskP base B w (.int .i64 (cutE r n)) (cutR r n).dk) := by
  have hlt := h.lt
  obtain ⟨a, b, off⟩ := r
  have hsz : (a ++ b).size = a.size + b.size := ByteArray.size_append
  cases off with
  | true => exact (Cut_off n h rfl).mono fun e w' ⟨h1, h2⟩ => by subst h1; exact DiskP.quiet (by omega) h (below_eq h2)
  | false =>
    by_cases hn : n < 0 ∨ ((a.size + b.size : Nat) : Int) < n
    · have e1 : cutR ⟨a, b, false⟩ n = ⟨a, b, false⟩ := by unfold cutR; rw [if_neg Bool.false_ne_true, if_pos hn]
      have e2 : cutE ⟨a, b, false⟩ n = 9 := by unfold cutE; rw [if_neg Bool.false_ne_true, if_pos hn]
      rw [e1, e2]
      exact (Cut_bad n h rfl (by show n < 0 ∨ (((a ++ b).size : Nat) : Int) < n; rw [hsz]; exact hn)).mono fun e w' ⟨h1, h2⟩ => by subst h1; exact DiskP.quiet (by omega) h (below_eq h2)
    · obtain ⟨m, rfl⟩ := Int.eq_ofNat_of_zero_le (show 0 ≤ n by omega)
      have e1 : cutR ⟨a, b, false⟩ m = ⟨(a ++ b).extract 0 m, ⟨#[]⟩, false⟩ := by unfold cutR; rw [if_neg Bool.false_ne_true, if_neg hn]; rfl
      have e2 : cutE ⟨a, b, false⟩ m = 0 := by unfold cutE; rw [if_neg Bool.false_ne_true, if_neg hn]
      rw [e1, e2]
      have hm : m ≤ (a ++ b).size := by rw [hsz]; omega
      refine (Cut_good m h hbw (Rd.dk_ok _ hf) rfl hm).mono fun e w' hP => hP.is ?_
      exact (rd_dk_eq (emp0 _) (ext_size _ _ hm) rfl).symm
theorem rCut (n : Int) (r : Rd) (w : World) (hf : r.fine) : Calls Try.prog 13 #[.agg #[.string r.a, .string r.b, .bool r.off], .int .i64 n] w fun e w' => e = .returned (.tuple #[.agg #[.string (cutR r n).a, .string (cutR r n).b, .bool (cutR r n).off], .int .i64 (cutE r n)]) ∧ Below w.heap.size w w' := by
  obtain ⟨a, b, off⟩ := r
  cases off with
  | true => exact refCut_off a b n w hf
  | false =>
    by_cases hn : n < 0 ∨ ((a.size + b.size : Nat) : Int) < n
    · have e1 : cutR ⟨a, b, false⟩ n = ⟨a, b, false⟩ := by unfold cutR; rw [if_neg Bool.false_ne_true, if_pos hn]
      have e2 : cutE ⟨a, b, false⟩ n = 9 := by unfold cutE; rw [if_neg Bool.false_ne_true, if_pos hn]
      rw [e1, e2]
      exact refCut_bad a b n w hf hn
    · obtain ⟨m, rfl⟩ := Int.eq_ofNat_of_zero_le (show 0 ≤ n by omega)
      have e1 : cutR ⟨a, b, false⟩ m = ⟨(a ++ b).extract 0 m, ⟨#[]⟩, false⟩ := by unfold cutR; rw [if_neg Bool.false_ne_true, if_neg hn]; rfl
      have e2 : cutE ⟨a, b, false⟩ m = 0 := by unfold cutE; rw [if_neg Bool.false_ne_true, if_neg hn]
      rw [e1, e2]
      exact refCut_good a b m w hf (by omega)
theorem dCrash (n : Int) (h : DiskAt w base B r.dk) (hbw : base ≤ B) (hf : r.fine) (h1 : -9223372036854775808 ≤ n) (h2 : n ≤ 9223372036854775807) : Calls Try.prog 14 #[.pointer (some ⟨B, 0, none⟩), .int .i64 n] w (DiskP base B w (.tuple #[]) (crashRd r n).dk) := by
  have hlt := h.lt
  obtain ⟨a, b, off⟩ := r
  cases off with
  | true => exact (Crash_off n h rfl).mono fun e w' ⟨h1, h2⟩ => by subst h1; exact DiskP.quiet (by omega) h (below_eq h2)
  | false =>
    refine (Crash_on n h hbw (Rd.dk_ok _ hf) rfl h1 h2).mono fun e w' hP => hP.is ?_
    have k3 : crashN (Rd.dk ⟨a, b, false⟩) n = a.size + crashR b n := by
      unfold crashN crashR Rd.dk; simp only [ByteArray.size_append]; omega
    have hb : crashR b n ≤ b.size := by unfold crashR; omega
    refine (rd_dk_eq ?_ ?_ rfl).symm
    · rw [emp0]; show _ = (a ++ b).extract 0 _; rw [k3, crash_ext]
    · show _ = crashN (Rd.dk ⟨a, b, false⟩) n
      rw [k3, ByteArray.size_append, ext_size _ _ hb]
theorem rCrash (n : Int) (r : Rd) (w : World) (hf : r.fine) : Calls Try.prog 15 #[.agg #[.string r.a, .string r.b, .bool r.off], .int .i64 n] w fun e w' => e = .returned (.agg #[.string (crashRd r n).a, .string (crashRd r n).b, .bool (crashRd r n).off]) ∧ Below w.heap.size w w' := by
  obtain ⟨a, b, off⟩ := r
  cases off with
  | true => exact refCrash_off a b n w
  | false => exact refCrash_on a b n w hf
theorem dApp (s : ByteArray) (h : DiskAt w base B r.dk) (hbw : base ≤ B) (hf : r.fine) (hs : s.size ≤ 1048576) : Calls Try.prog 18 #[.pointer (some ⟨B, 0, none⟩), .string s] w (DiskP base B w (.int .i64 (appE r s)) (appR r s).dk) := by
  have hlt := h.lt
  obtain ⟨a, b, off⟩ := r
  have hsz : (a ++ b).size = a.size + b.size := ByteArray.size_append
  cases off with
  | true => exact (Append_off s h rfl).mono fun e w' ⟨h1, h2⟩ => by subst h1; exact DiskP.quiet (by omega) h (below_eq h2)
  | false =>
    by_cases hn : 1048576 < a.size + b.size + s.size
    · have e1 : appR ⟨a, b, false⟩ s = ⟨a, b, false⟩ := by unfold appR; rw [if_neg Bool.false_ne_true, if_pos hn]
      have e2 : appE ⟨a, b, false⟩ s = 6 := by unfold appE; rw [if_neg Bool.false_ne_true, if_pos hn]
      rw [e1, e2]
      exact (Append_full s h (Rd.dk_ok _ hf) rfl (by unfold maxLen; omega) (by show 1048576 < (a ++ b).size + s.size; rw [hsz]; exact hn)).mono fun e w' ⟨h1, h2⟩ => by subst h1; exact DiskP.quiet (by omega) h (below_eq h2)
    · have e1 : appR ⟨a, b, false⟩ s = ⟨a, b ++ s, false⟩ := by unfold appR; rw [if_neg Bool.false_ne_true, if_neg hn]
      have e2 : appE ⟨a, b, false⟩ s = 0 := by unfold appE; rw [if_neg Bool.false_ne_true, if_neg hn]
      rw [e1, e2]
      refine (Append_good s h hbw (Rd.dk_ok _ hf) rfl (by show (a ++ b).size + s.size ≤ 1048576; rw [hsz]; omega)).mono fun e w' hP => hP.is ?_
      exact (rd_dk_eq (app_assoc _ _ _) rfl rfl).symm
theorem rApp (s : ByteArray) (r : Rd) (w : World) (hf : r.fine) (hs : s.size ≤ 1048576) : Calls Try.prog 19 #[.agg #[.string r.a, .string r.b, .bool r.off], .string s] w fun e w' => e = .returned (.tuple #[.agg #[.string (appR r s).a, .string (appR r s).b, .bool (appR r s).off], .int .i64 (appE r s)]) ∧ Below w.heap.size w w' := by
  obtain ⟨a, b, off⟩ := r
  cases off with
  | true => exact refApp_off a b s w
  | false =>
    by_cases hn : 1048576 < a.size + b.size + s.size
    · have e1 : appR ⟨a, b, false⟩ s = ⟨a, b, false⟩ := by unfold appR; rw [if_neg Bool.false_ne_true, if_pos hn]
      have e2 : appE ⟨a, b, false⟩ s = 6 := by unfold appE; rw [if_neg Bool.false_ne_true, if_pos hn]
      rw [e1, e2]
      exact refApp_full a b s w hf hs hn
    · have e1 : appR ⟨a, b, false⟩ s = ⟨a, b ++ s, false⟩ := by unfold appR; rw [if_neg Bool.false_ne_true, if_neg hn]
      have e2 : appE ⟨a, b, false⟩ s = 0 := by unfold appE; rw [if_neg Bool.false_ne_true, if_neg hn]
      rw [e1, e2]
      exact refApp_good a b s w (by omega)
theorem DiskAt.setB {k : Dk} (h : DiskAt w base B k) {M j : Nat} {v : Value} {cs : Array Value} {T : TypeId} (hM : Blk w M cs T) (h1 : T ≠ 62) (h2 : T ≠ 5) : DiskAt (w.setCell ⟨M, j, none⟩ v) base B k := by
  obtain ⟨u, hv, ho⟩ := h
  refine ⟨u, hv.set_other _ _ (hv.differ hM h1.symm), own_block ho fun g hg => Below.heap_setCell _ ⟨M, j, none⟩ _ g (fun e => own_ne ho hM h2.symm (by rw [hg, e]))⟩
end
/-- The disk and the reference's beside it. -/
def PlaysAt (w : World) (B M : Nat) (r : Rd) (wr : World) : Prop := DiskAt wr w.heap.size B r.dk ∧ Blk wr M #[.string r.a, .string r.b, .bool r.off] 27 ∧ r.fine ∧ Below w.heap.size w wr
theorem PlaysAt.on {w wr w2 : World} {B M : Nat} {r : Rd} (h : PlaysAt w B M r wr) (hB : Below wr.heap.size wr w2) : PlaysAt w B M r w2 :=
  ⟨h.1.on hB, h.2.1.on hB, h.2.2.1, m_below_on h.2.2.2 hB⟩
theorem PlaysAt.step {w w7 : World} {B M : Nat} {r : Rd} {x0 x1 x2 : Value} (hD : DiskAt w7 w.heap.size B r.dk) (hM : Blk w7 M #[x0, x1, x2] 27) (hB : Below w.heap.size w w7) (hwM : w.heap.size ≤ M) (hf : r.fine) :
    PlaysAt w B M r (((w7.setCell ⟨M, 0, none⟩ (.string r.a)).setCell ⟨M, 1, none⟩ (.string r.b)).setCell ⟨M, 2, none⟩ (.bool r.off)) := by
  have m1 := hM.set 0 (.string r.a) _ rfl
  have m2 := m1.set 1 (.string r.b) _ rfl
  have m3 := m2.set 2 (.bool r.off) _ rfl
  exact ⟨((hD.setB hM (by decide) (by decide)).setB m1 (by decide) (by decide)).setB m2 (by decide) (by decide), m3, hf, ((hB.setCell (p := ⟨M, 0, none⟩) hwM _).setCell (p := ⟨M, 1, none⟩) hwM _).setCell (p := ⟨M, 2, none⟩) hwM _⟩
end Go.Proofs.Ytobmfbafjpbkoaa
