/-
  What DiskPlays is walked by: the acts that come in, the reference's disk beside the program's, a text of zeros.
-/
import Derived.Test.YtobmfbafjpbkoaaLastsA
import Derived.Test.YtobmfbafjpbkoaaOpen
namespace Go.Proofs.Ytobmfbafjpbkoaa
open Go.RowKit Go.Instr Go.ChangeShapes Go.WideShapes Go.ChangeAt

/-- An act that came in. -/
structure ActD where
  w : Int
  n : Int
  t : ByteArray
def ActD.fine (x : ActD) : Prop := (-9223372036854775808 ≤ x.w ∧ x.w ≤ 9223372036854775807) ∧ (-9223372036854775808 ≤ x.n ∧ x.n ≤ 9223372036854775807) ∧ x.t.size ≤ maxLen
theorem ones3 {v0 v1 v2 : Value} (h0 : v0.oneCell' = true) (h1 : v1.oneCell' = true) (h2 : v2.oneCell' = true) : ∀ u ∈ ([v0, v1, v2] : List Value), u.oneCell' = true := by
  intro u hu
  simp only [List.mem_cons, List.not_mem_nil, or_false] at hu
  rcases hu with rfl | rfl | rfl <;> assumption
def actR : RK ActD := { f := fun x => [.int .i64 x.w, .int .i64 x.n, .string x.t], c := 3, pos := by decide, len := fun _ => rfl, one := fun _ => ones3 rfl rfl rfl }
theorem act_cells3 : Try.prog.cellsOf 3 = 1 := by kernel_rfl
theorem act_cells9 : Try.prog.cellsOf 9 = 1 := by kernel_rfl
theorem act_cells29 : Try.prog.cellsOf 29 = 3 := by kernel_rfl
theorem open_act {H : Type} {enc : TypeId × Value → H} {w : World} {base : Nat} {spare : Nat → Bool} {held : Bool} (fuel : Nat) (cs : List Value) (x : DataW H × List MemPlace)
    (h : DataW.trod enc Try.prog w base spare held fuel 29 cs = some x) : ∃ s : ActD, cs = actR.f s ∧ s.fine := by
  obtain ⟨xs, n, _, _, hl, hlen, hf⟩ := DataW.trod_struct Try.underlying29 h
  rw [act_cells29] at hl
  match xs, hlen with
  | [y0, y1, y2], _ =>
    match cs, hl with
    | [c0, c1, c2], _ =>
      have h0 : DataW.trod enc Try.prog w base spare held n 3 (([c0, c1, c2].drop 0).take (Try.prog.cellsOf 3)) = some y0 := hf 0 _ rfl
      have h1 : DataW.trod enc Try.prog w base spare held n 3 (([c0, c1, c2].drop 1).take (Try.prog.cellsOf 3)) = some y1 := hf 1 _ rfl
      have h2 : DataW.trod enc Try.prog w base spare held n 9 (([c0, c1, c2].drop 2).take (Try.prog.cellsOf 9)) = some y2 := hf 2 _ rfl
      rw [act_cells3] at h0 h1
      rw [act_cells9] at h2
      obtain ⟨k0, e0, _, w0⟩ := DataW.trod_int Try.underlying3 h0
      obtain ⟨k1, e1, _, w1⟩ := DataW.trod_int Try.underlying3 h1
      obtain ⟨k2, e2, _, w2⟩ := DataW.trod_string Try.underlying9 h2
      simp at e0 e1 e2
      exact ⟨⟨k0, k1, k2⟩, by rw [e0, e1, e2]; rfl, bounds_i64 w0, bounds_i64 w1, w2⟩
theorem rem_pos (i : Int) (n : Nat) (hn : 0 < n) : ∃ (q : Int) (r : Nat), i.tmod n = q ∧ -(n : Int) < q ∧ q < n ∧ (q + n) % n = r ∧ r < n := by
  have h1 := Int.tmod_lt_of_pos i (show (0 : Int) < n by omega)
  have h2 : -(n : Int) < i.tmod n := Int.lt_tmod_of_pos i (by omega)
  have h3 := Int.emod_nonneg (i.tmod n + n) (show (n : Int) ≠ 0 by omega)
  have h4 := Int.emod_lt_of_pos (i.tmod n + n) (show (0 : Int) < n by omega)
  refine ⟨_, ((i.tmod n + n) % n).toNat, rfl, h2, h1, ?_, ?_⟩ <;> omega
theorem mask16 (n : Int) : ∃ y : Nat, bits .and .i64 n 65535 = y ∧ y ≤ 65535 := by
  unfold bits
  simp only
  obtain ⟨z, hz⟩ : ∃ z, z = (BitVec.ofInt IntKind.i64.bits n &&& BitVec.ofInt IntKind.i64.bits 65535).toNat := ⟨_, rfl⟩
  rw [← hz]
  have hle : z ≤ 65535 := by
    rw [hz, BitVec.toNat_and]
    refine Nat.le_trans Nat.and_le_right ?_
    decide
  refine ⟨z, ?_, hle⟩
  unfold IntKind.wrap
  simp [IntKind.bits, IntKind.signed]
  omega
/-- What a disk shows where all zeros are appended. -/
def zeros (n : Nat) : ByteArray := ⟨(List.replicate n (0 : UInt8)).toArray⟩
theorem zeros_size (n : Nat) : (zeros n).size = n := by
  show (List.replicate n (0 : UInt8)).toArray.size = n
  simp
theorem make_zeros (n : Nat) (hn : n ≤ 500000) : ∃ cm : Array Value, (∀ w : World, (Instr.makeSlice 38 (.int .i64 n) (.int .i64 n)).run Try.prog w = .ok (.slice (some ⟨w.heap.size, 0, none⟩) n n) (w.alloc (.cells cm 5))) ∧
    ∀ w : World, (convert 38 9 (.slice (some ⟨w.heap.size, 0, none⟩) n n)).run Try.prog (w.alloc (.cells cm 5)) = .ok (.string (zeros n)) (w.alloc (.cells cm 5)) := by
  obtain ⟨i, h1, h2, h3, h4⟩ := info_parts Try.info5
  refine ⟨madeCells (Value.int .u8 0).cells (n * 1), fun w => ?_, fun w => ?_⟩
  · have := run_makeSlice w 38 5 i (.int .u8 0) Try.underlying38 h1 h2 .i64 .i64 n n (by omega) (Int.le_refl _) (by rw [h3]; simp; omega) (by rw [h4]; omega) (by omega)
    rw [h3] at this
    simpa using this
  · have e : (madeCells (Value.int .u8 0).cells (n * 1)).toList = List.replicate n (.int .u8 0) := by
      rw [Nat.mul_one]
      simp only [madeCells, Value.cells]
      apply List.ext_getElem
      · simp
      · intro i h1 h2
        simp [Nat.mod_one]
    have := run_convert_bytes_back (w.alloc (.cells (madeCells (Value.int .u8 0).cells (n * 1)) 5)) 38 9 5 ⟨w.heap.size, 0, none⟩ n (List.replicate n (0 : UInt8)) Try.underlying38 Try.underlying5 Try.underlying9 (fun j hj => by
      have e2 : (⟨w.heap.size, 0, none⟩ : Addr).add j = ⟨w.heap.size, j, none⟩ := by unfold Addr.add; split <;> simp_all
      rw [e2, cell_of_row _ _ j _ _ (0, 0) (heap_alloc_new w _)]
      rw [← Array.getElem?_toList, e]
      simp at hj
      simp [hj])
    simpa [zeros] using this
end Go.Proofs.Ytobmfbafjpbkoaa
