/-
  A slice of commands that came in: what its cells hold.
-/
import Derived.Test.YtkgahhfemlebmaaViewM
import Derived.ProofKit
import Derived.OpenShut
import Derived.ShutString
import Derived.ChangeOld
import Derived.Below
import Derived.Deep.Slices
import Derived.Lib.SmallJoins
namespace Go.Proofs.Ytkgahhfemlebmaa
open Go.RowKit Go.Instr Go.ChangeShapes Go.WideShapes Go.ChangeAt
/-- A slice of commands that came in. -/
def RowC (w : World) (a : Option Addr) (n : Nat) (z : Nat → Cmd) : Prop :=
  ∀ k, k < n → ∃ b off, a = some ⟨b, off, none⟩ ∧ w.cell? ⟨b, off + k * 5, none⟩ = some (.int .u8 (z k).k) ∧ w.cell? ⟨b, off + k * 5 + 1, none⟩ = some (.int .u8 (z k).n) ∧ w.cell? ⟨b, off + k * 5 + 2, none⟩ = some (.int .u8 (z k).l) ∧ w.cell? ⟨b, off + k * 5 + 3, none⟩ = some (.int .u32 (z k).e) ∧ w.cell? ⟨b, off + k * 5 + 4, none⟩ = some (.int .u32 (z k).r) ∧ (z k).fine
theorem law_cells22 : Try.prog.cellsOf 22 = 1 := by kernel_rfl
theorem law_cells39 : Try.prog.cellsOf 39 = 5 := by kernel_rfl
theorem nat_u32 {k : Int} (h : (Lit.int .u32 k).wf = true) : ∃ n : Nat, k = n ∧ n < 4294967296 := by
  have b := bounds_u32 h
  obtain ⟨n, rfl⟩ := Int.eq_ofNat_of_zero_le b.1
  exact ⟨n, rfl, by omega⟩
theorem nat_u8 {k : Int} (h : (Lit.int .u8 k).wf = true) : ∃ n : Nat, k = n ∧ n < 256 := by
  have b := bounds_u8 h
  obtain ⟨n, rfl⟩ := Int.eq_ofNat_of_zero_le b.1
  exact ⟨n, rfl, by omega⟩
/-- The five cells of a command that came in. -/
theorem open_cells {H : Type} {enc : TypeId × Value → H} {w : World} {base : Nat} {spare : Nat → Bool} {held : Bool} {fuel : Nat} {cs : List Value} {x : DataW H × List MemPlace}
    (h : DataW.trod enc Try.prog w base spare held fuel 39 cs = some x) : ∃ c : Cmd, cs = [.int .u8 c.k, .int .u8 c.n, .int .u8 c.l, .int .u32 c.e, .int .u32 c.r] ∧ c.fine := by
  obtain ⟨xs, n, _, _, hl, hlen, hf⟩ := DataW.trod_struct Try.underlying39 h
  rw [law_cells39] at hl
  match xs, hlen with
  | [y0, y1, y2, y3, y4], _ =>
    match cs, hl with
    | [c0, c1, c2, c3, c4], _ =>
      have h0 : DataW.trod enc Try.prog w base spare held n 5 (([c0, c1, c2, c3, c4].drop 0).take (Try.prog.cellsOf 5)) = some y0 := hf 0 _ rfl
      have h1 : DataW.trod enc Try.prog w base spare held n 5 (([c0, c1, c2, c3, c4].drop 1).take (Try.prog.cellsOf 5)) = some y1 := hf 1 _ rfl
      have h2 : DataW.trod enc Try.prog w base spare held n 5 (([c0, c1, c2, c3, c4].drop 2).take (Try.prog.cellsOf 5)) = some y2 := hf 2 _ rfl
      have h3 : DataW.trod enc Try.prog w base spare held n 22 (([c0, c1, c2, c3, c4].drop 3).take (Try.prog.cellsOf 22)) = some y3 := hf 3 _ rfl
      have h4 : DataW.trod enc Try.prog w base spare held n 22 (([c0, c1, c2, c3, c4].drop 4).take (Try.prog.cellsOf 22)) = some y4 := hf 4 _ rfl
      rw [cells5] at h0 h1 h2
      rw [law_cells22] at h3 h4
      obtain ⟨k0, e0, _, w0⟩ := DataW.trod_int Try.underlying5 h0
      obtain ⟨k1, e1, _, w1⟩ := DataW.trod_int Try.underlying5 h1
      obtain ⟨k2, e2, _, w2⟩ := DataW.trod_int Try.underlying5 h2
      obtain ⟨k3, e3, _, w3⟩ := DataW.trod_int Try.underlying22 h3
      obtain ⟨k4, e4, _, w4⟩ := DataW.trod_int Try.underlying22 h4
      obtain ⟨m0, rfl, g0⟩ := nat_u8 w0
      obtain ⟨m1, rfl, g1⟩ := nat_u8 w1
      obtain ⟨m2, rfl, g2⟩ := nat_u8 w2
      obtain ⟨m3, rfl, g3⟩ := nat_u32 w3
      obtain ⟨m4, rfl, g4⟩ := nat_u32 w4
      simp at e0 e1 e2 e3 e4
      exact ⟨⟨m0, m1, m2, m3, m4⟩, by rw [e0, e1, e2, e3, e4], g0, g1, g2, g3, g4⟩
theorem rowC_of {H : Type} {enc : TypeId × Value → H} {w : World} {base : Nat} {spare : Nat → Bool} {held : Bool} {fuel : Nat} {a0 : Option Addr} {len cap : Nat} {x : DataW H × List MemPlace}
    (h : DataW.trod enc Try.prog w base spare held fuel 23 [.slice a0 len cap] = some x) : ∃ z, len ≤ maxLen ∧ RowC w a0 len z := by
  rcases Go.Deep.open_slice Try.underlying23 h with ⟨hcs, _⟩ | ⟨a, l, c, m, n, D, Pl, hcs, _, hl, hm, hmm, _, hat⟩
  · simp at hcs
    obtain ⟨rfl, rfl, rfl⟩ := hcs
    exact ⟨fun _ => ⟨0, 0, 0, 0, 0⟩, Nat.zero_le _, fun k hk => absurd hk (Nat.not_lt_zero _)⟩
  · simp at hcs
    obtain ⟨rfl, rfl, rfl⟩ := hcs
    have hlm : len ≤ m := by rw [hmm]; split <;> omega
    have each : ∀ k, ∃ s : Cmd, k < len → (∀ j u, ([.int .u8 s.k, .int .u8 s.n, .int .u8 s.l, .int .u32 s.e, .int .u32 s.r] : List Value)[j]? = some u → w.cell? ((a.add (k * 5)).add j) = some u) ∧ s.fine := by
      intro k
      by_cases hk : k < len
      · obtain ⟨cs', hc, ht⟩ := hat k (by omega)
        rw [law_cells39] at hc
        obtain ⟨s, rfl, h1⟩ := open_cells ht
        obtain ⟨_, _, hcell⟩ := World.cells?_some hc
        refine ⟨s, fun _ => ⟨fun j u hj => ?_, h1⟩⟩
        have hj3 : j < 5 := by
          rcases Nat.lt_or_ge j 5 with h | h
          · exact h
          · rw [List.getElem?_eq_none (by simpa using h)] at hj; cases hj
        have := hcell j hj3
        exact this.trans hj
      · exact ⟨⟨0, 0, 0, 0, 0⟩, fun h => absurd h hk⟩
    obtain ⟨z, hz⟩ := Classical.axiomOfChoice each
    refine ⟨z, by omega, fun k hk => ?_⟩
    obtain ⟨q, hin⟩ := hz k hk
    have q0 := q 0 _ rfl
    have q1 := q 1 _ rfl
    have q2 := q 2 _ rfl
    have q3 := q 3 _ rfl
    have q4 := q 4 _ rfl
    obtain ⟨b, off, spot⟩ := a
    have hspot : spot = none := by
      have h00 := (hz 0 (by omega)).1 0 _ rfl
      simp only [Nat.zero_mul] at h00
      simpa [Addr.add] using World.cell?_spot h00
    subst hspot
    have ea : ∀ i j : Nat, ((⟨b, off, none⟩ : Addr).add i).add j = ⟨b, off + i + j, none⟩ := by
      intro i j
      unfold Addr.add
      split <;> split <;> simp_all
    rw [ea] at q0 q1 q2 q3 q4
    exact ⟨b, off, rfl, q0, q1, q2, q3, q4, hin⟩
end Go.Proofs.Ytkgahhfemlebmaa
