/-
  What JournalTorn and JournalReads are walked by: append of a row that may be nil; what a power failure leaves.
-/
import Derived.Test.YtobmfbafjpbkoaaJrnF
import Derived.Laws.AppendOwnNone
namespace Go.Proofs.Ytobmfbafjpbkoaa
open Go.RowKit Go.Instr

theorem wpList_append_src (w : World) {ops : Array Oper} {rest : List Oper} {o : Oper} {a : Act} {Q : Exit → Act → World → Prop} (hgd : o.guard = none) (s x : Operand)
    (ho : o.op = .call { callee := .builtin .append, args := #[s, x], argTypes := #[44, 44] })
    (base : Nat) (v : Value) (n : Nat) (xs : List Value) (hs : a.eval s = v) (hown : w.ownsRow base 9 1 v n xs)
    (l : List ByteArray) (vx : Value) (hx : a.eval x = vx) (hat : strR.At w vx l) (hn : n + l.length ≤ 1000000) (hbase : base ≤ w.heap.size)
    (h : ∀ v' w', w'.ownsRow base 9 1 v' (n + l.length) (xs ++ strR.row l) → w.grownBy w' v.ownBlock → wpList Try.prog ops Q rest (a.put o.dst v') w') : wpList Try.prog ops Q (o :: rest) a w := by
  obtain ⟨i0, hi, hz0, hz1, hz2⟩ := info_parts Try.info9
  rcases hat with ⟨rfl, rfl⟩ | ⟨b, off, cap, rfl, hb, hc⟩
  · refine wpList_append_own_none hgd s x 44 ho base 9 i0 1 Try.underlying44 hi v n xs hs hown hx (h v w ?_ (grown_same _ _))
    simpa [RK.row] using hown
  · refine wpList_append_own w hgd s x 44 ho base 9 i0 (.string ByteArray.empty) 1 16 Try.underlying44 hi hz0 hz1 hz2 rfl (by decide) v n xs hs hown ⟨b, off, none⟩ l.length cap (strR.row l) hx (by rw [RK.row_len]; rfl) ?_ (strR.row_ones l) (by unfold maxLen; omega) (by omega) hbase (fun v' w' h1 h2 _ => h v' w' h1 h2)
    intro j u hj
    have e : (⟨b, off, none⟩ : Addr).add j = ⟨b, off + j, none⟩ := by unfold Addr.add; split <;> simp_all
    rw [e]
    exact hc j u hj
theorem crash_full (s : ByteArray) (n : Int) : (⟨s.extract 0 (crashN (⟨s, s.size, true⟩ : Dk) n), crashN (⟨s, s.size, true⟩ : Dk) n, false⟩ : Dk) = ⟨s, s.size, false⟩ := by
  have e : crashN (⟨s, s.size, true⟩ : Dk) n = s.size := by unfold crashN; simp; omega
  rw [e, ext_all]
theorem crash_torn (a b : ByteArray) (n : Int) : (⟨(a ++ b).extract 0 (crashN (⟨a ++ b, a.size, true⟩ : Dk) n), crashN (⟨a ++ b, a.size, true⟩ : Dk) n, false⟩ : Dk) = ⟨a ++ b.extract 0 (crashR b n), (a ++ b.extract 0 (crashR b n)).size, false⟩ := by
  have k3 : crashN (⟨a ++ b, a.size, true⟩ : Dk) n = a.size + crashR b n := by
    unfold crashN crashR; simp only [ByteArray.size_append]; omega
  have hb : crashR b n ≤ b.size := by unfold crashR; omega
  rw [k3, crash_ext, ByteArray.size_append, ext_size _ _ hb]
theorem crashR_le (b : ByteArray) (n : Int) : crashR b n ≤ b.size := by unfold crashR; omega
def intR : RK Int := { f := fun x => [.int .i64 x], c := 1, pos := by decide, len := fun _ => rfl, one := fun _ => by intro u hu; simp only [List.mem_cons, List.not_mem_nil, or_false] at hu; subst hu; rfl }
theorem own_lt {w : World} {base : Nat} {v : Value} {l : List ByteArray} (h : strR.Own 9 w base v l) : ∀ g, v.ownBlock = some g → g < w.heap.size := fun g hg => (World.ownsRow.lt h g hg).2
theorem own_len {w : World} {base : Nat} {v : Value} {l : List ByteArray} (h : strR.Own 9 w base v l) {n : Nat} (hn : l.length = n) : w.ownsRow base 9 1 v n (strR.row l) := by subst hn; exact h
theorem len_own {w : World} {base : Nat} {v : Value} {l : List ByteArray} {n : Nat} (h : w.ownsRow base 9 1 v n (strR.row l)) (hn : l.length = n) : strR.Own 9 w base v l := by subst hn; exact h
theorem own_src {w : World} {base n : Nat} {v : Value} {m : List ByteArray} (h : w.ownsRow base 9 1 v (0 + m.length) ([] ++ strR.row m)) (hn : m.length = n) : w.ownsRow base 9 1 v n (strR.row m) := by
  subst hn
  rw [Nat.zero_add] at h
  exact h
theorem grown_fresh {w w' : World} (hgr : (w.alloc (.cells #[] 9)).grownBy w' (Value.slice (some ⟨w.heap.size, 0, none⟩) 0 0).ownBlock) : Below w.heap.size w w' :=
  ((Below.refl _ _).alloc (Nat.le_refl _) _).grown hgr (by simp) (fun j hj => by
    have : w.heap.size = j := by simpa [Value.ownBlock] using hj
    omega)
end Go.Proofs.Ytobmfbafjpbkoaa
