/-
  A slice of structs that came in: its elements as a list.
-/
import Derived.Test.YtodajejjhfpdmaaDoorProg
import Derived.Test.YtodajejjhfpdmaaDoorGen
import Derived.ProofKit
import Derived.OpenShut
import Derived.ShutString
import Derived.ChangeOld
import Derived.Below
import Derived.Deep.Slices
import Derived.Lib.SmallJoins
import Derived.Test.YtodajejjhfpdmaaDoorFrmR
namespace Go.Proofs.YtodajejjhfpdmaaDoor
open Go.RowKit Go.Instr Go.ChangeShapes Go.WideShapes Go.ChangeAt

theorem nat_u32 {k : Int} (h : (Lit.int .u32 k).wf = true) : ∃ n : Nat, k = n ∧ n < 4294967296 := by
  have b := bounds_u32 h
  obtain ⟨n, rfl⟩ := Int.eq_ofNat_of_zero_le b.1
  exact ⟨n, rfl, by omega⟩
theorem nat_u8 {k : Int} (h : (Lit.int .u8 k).wf = true) : ∃ n : Nat, k = n ∧ n < 256 := by
  have b := bounds_u8 h
  obtain ⟨n, rfl⟩ := Int.eq_ofNat_of_zero_le b.1
  exact ⟨n, rfl, by omega⟩
/-- A slice whose elements' cells are each known is a list. -/
theorem slice_list {α : Type} (R : RK α) {P : Program} (T E : TypeId) (hT : P.underlying T = some (.slice E)) (hE : P.cellsOf E = R.c) (fine : α → Prop) (dflt : α)
    {H : Type} {enc : TypeId × Value → H} {w : World} {base : Nat} {spare : Nat → Bool} {held : Bool} {fuel : Nat} {a0 : Option Addr} {len cap : Nat} {x : DataW H × List MemPlace}
    (each : ∀ (fuel : Nat) (cs : List Value) (x : DataW H × List MemPlace), DataW.trod enc P w base spare held fuel E cs = some x → ∃ s, cs = R.f s ∧ fine s)
    (h : DataW.trod enc P w base spare held fuel T [.slice a0 len cap] = some x) : ∃ l : List α, l.length = len ∧ len ≤ maxLen ∧ (∀ m ∈ l, fine m) ∧ (0 < len → R.At w (.slice a0 len cap) l) := by
  rcases Go.Deep.open_slice hT h with ⟨hcs, _⟩ | ⟨a, l, c, m, n, D, Pl, hcs, _, hl, hm, hmm, _, hat⟩
  · simp at hcs
    obtain ⟨rfl, rfl, rfl⟩ := hcs
    exact ⟨[], rfl, Nat.zero_le _, fun _ h => (by cases h), fun h => absurd h (Nat.lt_irrefl _)⟩
  · simp at hcs
    obtain ⟨rfl, rfl, rfl⟩ := hcs
    have hlm : len ≤ m := by rw [hmm]; split <;> omega
    have each' : ∀ k, ∃ s : α, k < len → (∀ j u, (R.f s)[j]? = some u → w.cell? ((a.add (k * R.c)).add j) = some u) ∧ fine s := by
      intro k
      by_cases hk : k < len
      · obtain ⟨cs', hc, ht⟩ := hat k (by omega)
        rw [hE] at hc
        obtain ⟨s, rfl, h1⟩ := each _ _ _ ht
        obtain ⟨_, _, hcell⟩ := World.cells?_some hc
        refine ⟨s, fun _ => ⟨fun j u hj => ?_, h1⟩⟩
        have hj3 : j < R.c := by
          have := (List.getElem?_eq_some_iff.1 hj).1
          rwa [R.len] at this
        exact (hcell j hj3).trans hj
      · exact ⟨dflt, fun h => absurd h hk⟩
    obtain ⟨z, hz⟩ := Classical.axiomOfChoice each'
    refine ⟨(List.range len).map z, by simp, by omega, ?_, fun hpos => ?_⟩
    · intro s hs
      obtain ⟨k, hk, rfl⟩ := List.mem_map.1 hs
      exact (hz k (List.mem_range.1 hk)).2
    · obtain ⟨b, off, spot⟩ := a
      have hspot : spot = none := by
        have hp := R.pos
        have h00 := (hz 0 hpos).1 0 _ (List.getElem?_eq_getElem (by rw [R.len]; exact hp))
        simp only [Nat.zero_mul] at h00
        simpa [Addr.add] using World.cell?_spot h00
      subst hspot
      have ea : ∀ i j : Nat, ((⟨b, off, none⟩ : Addr).add i).add j = ⟨b, off + (i + j), none⟩ := by
        intro i j
        unfold Addr.add
        split <;> split <;> simp_all <;> omega
      refine .inr ⟨b, off, cap, by simp, ?_, fun j u hu => ?_⟩
      · have h00 := (hz 0 hpos).1 0 _ (List.getElem?_eq_getElem (by rw [R.len]; exact R.pos))
        rw [ea] at h00
        exact World.block_lt_of_cell? _ _ h00
      · have hj := (List.getElem?_eq_some_iff.1 hu).1
        rw [R.row_len, List.length_map, List.length_range] at hj
        have hi : j / R.c < len := by rw [Nat.div_lt_iff_lt_mul R.pos]; exact hj
        have hjj : j % R.c < R.c := Nat.mod_lt _ R.pos
        have hkk : j / R.c * R.c + j % R.c = j := by rw [Nat.mul_comm]; exact Nat.div_add_mod j R.c
        rw [← hkk] at hu
        rw [R.row_at _ _ _ (by simpa using hi) hjj] at hu
        simp only [List.getElem_map, List.getElem_range] at hu
        have := (hz _ hi).1 _ _ hu
        rw [ea, hkk] at this
        exact this
end Go.Proofs.YtodajejjhfpdmaaDoor

namespace Go.Proofs.YtodajejjhfpdmaaDoor
open Go.RowKit Go.Instr Go.ChangeShapes Go.WideShapes Go.ChangeAt

theorem lcells_uint8 : Tryd.prog.cellsOf 5 = 1 := by kernel_rfl
theorem lcells_uint32 : Tryd.prog.cellsOf 22 = 1 := by kernel_rfl
theorem lcells_bool : Tryd.prog.cellsOf 4 = 1 := by kernel_rfl
theorem lcells_string : Tryd.prog.cellsOf 9 = 1 := by kernel_rfl
theorem lcells_C : Tryd.prog.cellsOf 24 = 5 := by kernel_rfl
theorem lcells_M : Tryd.prog.cellsOf 25 = 1 := by kernel_rfl
theorem lcells_L : Tryd.prog.cellsOf 26 = 8 := by kernel_rfl
theorem lcells_E : Tryd.prog.cellsOf 27 = 1 := by kernel_rfl
theorem lcells_F : Tryd.prog.cellsOf 29 = 34 := by kernel_rfl
theorem lcells_Mem : Tryd.prog.cellsOf 76 = memR.c := by kernel_rfl
theorem lcells_Ent : Tryd.prog.cellsOf 79 = entR.c := by kernel_rfl
theorem uncons {cs : List Value} {n : Nat} (h : cs.length = n + 1) : ∃ c t, cs = c :: t ∧ t.length = n := by
  cases cs with
  | nil => cases h
  | cons c t => exact ⟨c, t, rfl, by simpa using h⟩
theorem slice_form {H : Type} {enc : TypeId × Value → H} {w : World} {base : Nat} {spare : Nat → Bool} {held : Bool} {fuel : Nat} {cs : List Value} {x : DataW H × List MemPlace} {T E : TypeId} (hT : Tryd.prog.underlying T = some (.slice E)) (h : DataW.trod enc Tryd.prog w base spare held fuel T cs = some x) : ∃ a n c, cs = [.slice a n c] := by
  rcases Go.Deep.open_slice hT h with ⟨hcs, _⟩ | ⟨a, l, c, m, n, D, Pl, hcs, _⟩
  · exact ⟨_, _, _, hcs⟩
  · exact ⟨_, _, _, hcs⟩
set_option maxRecDepth 20000 in
theorem open_lcmd {H : Type} {enc : TypeId × Value → H} {w : World} {base : Nat} {spare : Nat → Bool} {held : Bool} {fuel : Nat} {cs : List Value} {x : DataW H × List MemPlace} (h : DataW.trod enc Tryd.prog w base spare held fuel 24 cs = some x) :
    ∃ c : CmdV, cs = [.int .u8 c.k, .int .u8 c.n, .int .u8 c.l, .int .u32 c.e, .int .u32 c.r] ∧ c.fine := by
  obtain ⟨ys, nn, _, _, hl, hlen, hf⟩ := DataW.trod_struct Tryd.underlying24 h
  rw [show Tryd.prog.cellsOf 24 = 5 from by kernel_rfl] at hl
  match ys, hlen with
  | [y0, y1, y2, y3, y4], _ =>
    match cs, hl with
    | [c0, c1, c2, c3, c4], _ =>
      have h0 : DataW.trod enc Tryd.prog w base spare held nn 5 [c0] = some y0 := by
        have := hf 0 _ rfl
        simpa [lcells_uint8] using this
      have h1 : DataW.trod enc Tryd.prog w base spare held nn 5 [c1] = some y1 := by
        have := hf 1 _ rfl
        simpa [lcells_uint8] using this
      have h2 : DataW.trod enc Tryd.prog w base spare held nn 5 [c2] = some y2 := by
        have := hf 2 _ rfl
        simpa [lcells_uint8] using this
      have h3 : DataW.trod enc Tryd.prog w base spare held nn 22 [c3] = some y3 := by
        have := hf 3 _ rfl
        simpa [lcells_uint32] using this
      have h4 : DataW.trod enc Tryd.prog w base spare held nn 22 [c4] = some y4 := by
        have := hf 4 _ rfl
        simpa [lcells_uint32] using this
      obtain ⟨zk, ek, _, wk⟩ := DataW.trod_int Tryd.underlying5 h0
      obtain ⟨k, rfl, bk⟩ := nat_u8 wk
      obtain ⟨zn, en, _, wn⟩ := DataW.trod_int Tryd.underlying5 h1
      obtain ⟨n, rfl, bn⟩ := nat_u8 wn
      obtain ⟨zl, el, _, wl⟩ := DataW.trod_int Tryd.underlying5 h2
      obtain ⟨l, rfl, bl⟩ := nat_u8 wl
      obtain ⟨ze, ee, _, we⟩ := DataW.trod_int Tryd.underlying22 h3
      obtain ⟨e, rfl, be⟩ := nat_u32 we
      obtain ⟨zr, er, _, wr⟩ := DataW.trod_int Tryd.underlying22 h4
      obtain ⟨r, rfl, br⟩ := nat_u32 wr
      simp only [List.cons.injEq, and_true] at ek en el ee er
      subst ek en el ee er
      exact ⟨⟨k, n, l, e, r⟩, rfl, bk, bn, bl, be, br⟩
set_option maxRecDepth 20000 in
theorem open_llv {H : Type} {enc : TypeId × Value → H} {w : World} {base : Nat} {spare : Nat → Bool} {held : Bool} {fuel : Nat} {cs : List Value} {x : DataW H × List MemPlace} (h : DataW.trod enc Tryd.prog w base spare held fuel 26 cs = some x) :
    ∃ l : Lv, cs = [.int .u8 l.a, .int .u8 l.b, .int .u8 l.c, .int .u8 l.d, .int .u8 l.e, .int .u8 l.f, .int .u8 l.g, .int .u8 l.h] ∧ l.fine := by
  obtain ⟨ys, nn, _, _, hl, hlen, hf⟩ := DataW.trod_array Tryd.underlying26 h
  rw [show Tryd.prog.cellsOf 26 = 8 from by kernel_rfl] at hl
  match ys, hlen with
  | [y0, y1, y2, y3, y4, y5, y6, y7], _ =>
    match cs, hl with
    | [c0, c1, c2, c3, c4, c5, c6, c7], _ =>
      have h0 : DataW.trod enc Tryd.prog w base spare held nn 5 [c0] = some y0 := by
        have := hf 0 (by decide)
        simpa [lcells_uint8] using this
      have h1 : DataW.trod enc Tryd.prog w base spare held nn 5 [c1] = some y1 := by
        have := hf 1 (by decide)
        simpa [lcells_uint8] using this
      have h2 : DataW.trod enc Tryd.prog w base spare held nn 5 [c2] = some y2 := by
        have := hf 2 (by decide)
        simpa [lcells_uint8] using this
      have h3 : DataW.trod enc Tryd.prog w base spare held nn 5 [c3] = some y3 := by
        have := hf 3 (by decide)
        simpa [lcells_uint8] using this
      have h4 : DataW.trod enc Tryd.prog w base spare held nn 5 [c4] = some y4 := by
        have := hf 4 (by decide)
        simpa [lcells_uint8] using this
      have h5 : DataW.trod enc Tryd.prog w base spare held nn 5 [c5] = some y5 := by
        have := hf 5 (by decide)
        simpa [lcells_uint8] using this
      have h6 : DataW.trod enc Tryd.prog w base spare held nn 5 [c6] = some y6 := by
        have := hf 6 (by decide)
        simpa [lcells_uint8] using this
      have h7 : DataW.trod enc Tryd.prog w base spare held nn 5 [c7] = some y7 := by
        have := hf 7 (by decide)
        simpa [lcells_uint8] using this
      obtain ⟨zqa, eqa, _, wqa⟩ := DataW.trod_int Tryd.underlying5 h0
      obtain ⟨qa, rfl, bqa⟩ := nat_u8 wqa
      obtain ⟨zqb, eqb, _, wqb⟩ := DataW.trod_int Tryd.underlying5 h1
      obtain ⟨qb, rfl, bqb⟩ := nat_u8 wqb
      obtain ⟨zqc, eqc, _, wqc⟩ := DataW.trod_int Tryd.underlying5 h2
      obtain ⟨qc, rfl, bqc⟩ := nat_u8 wqc
      obtain ⟨zqd, eqd, _, wqd⟩ := DataW.trod_int Tryd.underlying5 h3
      obtain ⟨qd, rfl, bqd⟩ := nat_u8 wqd
      obtain ⟨zqe, eqe, _, wqe⟩ := DataW.trod_int Tryd.underlying5 h4
      obtain ⟨qe, rfl, bqe⟩ := nat_u8 wqe
      obtain ⟨zqf, eqf, _, wqf⟩ := DataW.trod_int Tryd.underlying5 h5
      obtain ⟨qf, rfl, bqf⟩ := nat_u8 wqf
      obtain ⟨zqg, eqg, _, wqg⟩ := DataW.trod_int Tryd.underlying5 h6
      obtain ⟨qg, rfl, bqg⟩ := nat_u8 wqg
      obtain ⟨zqh, eqh, _, wqh⟩ := DataW.trod_int Tryd.underlying5 h7
      obtain ⟨qh, rfl, bqh⟩ := nat_u8 wqh
      simp only [List.cons.injEq, and_true] at eqa eqb eqc eqd eqe eqf eqg eqh
      subst eqa eqb eqc eqd eqe eqf eqg eqh
      exact ⟨⟨qa, qb, qc, qd, qe, qf, qg, qh⟩, rfl, bqa, bqb, bqc, bqd, bqe, bqf, bqg, bqh⟩
set_option maxRecDepth 20000 in
theorem open_lmem {H : Type} {enc : TypeId × Value → H} {w : World} {base : Nat} {spare : Nat → Bool} {held : Bool} {fuel : Nat} {cs : List Value} {x : DataW H × List MemPlace} (h : DataW.trod enc Tryd.prog w base spare held fuel 76 cs = some x) :
    ∃ m : Mem, cs = memR.f m ∧ m.fine := by
  obtain ⟨ys, nn, _, _, hl, hlen, hf⟩ := DataW.trod_struct Tryd.underlying76 h
  rw [show Tryd.prog.cellsOf 76 = 3 from by kernel_rfl] at hl
  match ys, hlen with
  | [y0, y1, y2], _ =>
    match cs, hl with
    | [c0, c1, c2], _ =>
      have h0 : DataW.trod enc Tryd.prog w base spare held nn 5 [c0] = some y0 := by
        have := hf 0 _ rfl
        simpa [lcells_uint8] using this
      have h1 : DataW.trod enc Tryd.prog w base spare held nn 5 [c1] = some y1 := by
        have := hf 1 _ rfl
        simpa [lcells_uint8] using this
      have h2 : DataW.trod enc Tryd.prog w base spare held nn 4 [c2] = some y2 := by
        have := hf 2 _ rfl
        simpa [lcells_bool] using this
      obtain ⟨zn, en, _, wn⟩ := DataW.trod_int Tryd.underlying5 h0
      obtain ⟨n, rfl, bn⟩ := nat_u8 wn
      obtain ⟨zl, el, _, wl⟩ := DataW.trod_int Tryd.underlying5 h1
      obtain ⟨l, rfl, bl⟩ := nat_u8 wl
      obtain ⟨r, er, _⟩ := DataW.trod_bool Tryd.underlying4 h2
      simp only [List.cons.injEq, and_true] at en el er
      subst en el er
      exact ⟨⟨n, l, r⟩, rfl, bn, bl⟩
set_option maxRecDepth 20000 in
theorem open_lent {H : Type} {enc : TypeId × Value → H} {w : World} {base : Nat} {spare : Nat → Bool} {held : Bool} {fuel : Nat} {cs : List Value} {x : DataW H × List MemPlace} (h : DataW.trod enc Tryd.prog w base spare held fuel 79 cs = some x) :
    ∃ m : Ent, cs = entR.f m ∧ m.fine := by
  obtain ⟨ys, nn, _, _, hl, hlen, hf⟩ := DataW.trod_struct Tryd.underlying79 h
  rw [show Tryd.prog.cellsOf 79 = 8 from by kernel_rfl] at hl
  match ys, hlen with
  | [y0, y1, y2, y3], _ =>
    match cs, hl with
    | [c0, c1, c2, c3, c4, c5, c6, c7], _ =>
      have h0 : DataW.trod enc Tryd.prog w base spare held nn 22 [c0] = some y0 := by
        have := hf 0 _ rfl
        simpa [lcells_uint32] using this
      have h1 : DataW.trod enc Tryd.prog w base spare held nn 22 [c1] = some y1 := by
        have := hf 1 _ rfl
        simpa [lcells_uint32] using this
      have h2 : DataW.trod enc Tryd.prog w base spare held nn 5 [c2] = some y2 := by
        have := hf 2 _ rfl
        simpa [lcells_uint8] using this
      have h3 : DataW.trod enc Tryd.prog w base spare held nn 24 [c3, c4, c5, c6, c7] = some y3 := by
        have := hf 3 _ rfl
        simpa [lcells_C] using this
      obtain ⟨zs, es, _, ws⟩ := DataW.trod_int Tryd.underlying22 h0
      obtain ⟨s, rfl, bs⟩ := nat_u32 ws
      obtain ⟨zn, en, _, wn⟩ := DataW.trod_int Tryd.underlying22 h1
      obtain ⟨n, rfl, bn⟩ := nat_u32 wn
      obtain ⟨zb, eb, _, wb⟩ := DataW.trod_int Tryd.underlying5 h2
      obtain ⟨b, rfl, bb⟩ := nat_u8 wb
      obtain ⟨c, ec, bc⟩ := open_lcmd h3
      simp only [List.cons.injEq, and_true] at es en eb
      simp only [List.cons.injEq, and_true] at ec
      obtain ⟨ec0, ec1, ec2, ec3, ec4⟩ := ec
      subst es en eb ec0 ec1 ec2 ec3 ec4
      exact ⟨⟨s, n, b, c⟩, rfl, bs, bn, bb, bc⟩
set_option maxRecDepth 20000 in
set_option maxHeartbeats 2000000 in
set_option maxRecDepth 20000 in
theorem open_frame {H : Type} {enc : TypeId × Value → H} {w : World} {base : Nat} {spare : Nat → Bool} {held : Bool} {fuel : Nat} {cs : List Value} {x : DataW H × List MemPlace} (h : DataW.trod enc Tryd.prog w base spare held fuel 29 cs = some x) :
    ∃ (f : Fr) (a1 a2 : Option Addr) (n1 n2 k1 k2 : Nat), cs = (frC f (.slice a1 n1 k1) (.slice a2 n2 k2)).toList ∧ f.fine ∧ n1 = f.ms.length ∧ n2 = f.es.length ∧ n1 ≤ maxLen ∧ n2 ≤ maxLen ∧ f.text.size ≤ maxLen ∧ (0 < n1 → memR.At w (.slice a1 n1 k1) f.ms) ∧ (0 < n2 → entR.At w (.slice a2 n2 k2) f.es) := by
  obtain ⟨ys, nn, _, _, hl, hlen, hf⟩ := DataW.trod_struct Tryd.underlying29 h
  rw [show Tryd.prog.cellsOf 29 = 34 from by kernel_rfl] at hl
  match ys, hlen with
  | [y0, y1, y2, y3, y4, y5, y6, y7, y8, y9, y10, y11, y12, y13, y14, y15, y16, y17, y18, y19, y20, y21, y22], _ =>
      obtain ⟨c0, r0, rfl, hq0⟩ := uncons hl
      obtain ⟨c1, r1, rfl, hq1⟩ := uncons hq0
      obtain ⟨c2, r2, rfl, hq2⟩ := uncons hq1
      obtain ⟨c3, r3, rfl, hq3⟩ := uncons hq2
      obtain ⟨c4, r4, rfl, hq4⟩ := uncons hq3
      obtain ⟨c5, r5, rfl, hq5⟩ := uncons hq4
      obtain ⟨c6, r6, rfl, hq6⟩ := uncons hq5
      obtain ⟨c7, r7, rfl, hq7⟩ := uncons hq6
      obtain ⟨c8, r8, rfl, hq8⟩ := uncons hq7
      obtain ⟨c9, r9, rfl, hq9⟩ := uncons hq8
      obtain ⟨c10, r10, rfl, hq10⟩ := uncons hq9
      obtain ⟨c11, r11, rfl, hq11⟩ := uncons hq10
      obtain ⟨c12, r12, rfl, hq12⟩ := uncons hq11
      obtain ⟨c13, r13, rfl, hq13⟩ := uncons hq12
      obtain ⟨c14, r14, rfl, hq14⟩ := uncons hq13
      obtain ⟨c15, r15, rfl, hq15⟩ := uncons hq14
      obtain ⟨c16, r16, rfl, hq16⟩ := uncons hq15
      obtain ⟨c17, r17, rfl, hq17⟩ := uncons hq16
      obtain ⟨c18, r18, rfl, hq18⟩ := uncons hq17
      obtain ⟨c19, r19, rfl, hq19⟩ := uncons hq18
      obtain ⟨c20, r20, rfl, hq20⟩ := uncons hq19
      obtain ⟨c21, r21, rfl, hq21⟩ := uncons hq20
      obtain ⟨c22, r22, rfl, hq22⟩ := uncons hq21
      obtain ⟨c23, r23, rfl, hq23⟩ := uncons hq22
      obtain ⟨c24, r24, rfl, hq24⟩ := uncons hq23
      obtain ⟨c25, r25, rfl, hq25⟩ := uncons hq24
      obtain ⟨c26, r26, rfl, hq26⟩ := uncons hq25
      obtain ⟨c27, r27, rfl, hq27⟩ := uncons hq26
      obtain ⟨c28, r28, rfl, hq28⟩ := uncons hq27
      obtain ⟨c29, r29, rfl, hq29⟩ := uncons hq28
      obtain ⟨c30, r30, rfl, hq30⟩ := uncons hq29
      obtain ⟨c31, r31, rfl, hq31⟩ := uncons hq30
      obtain ⟨c32, r32, rfl, hq32⟩ := uncons hq31
      obtain ⟨c33, r33, rfl, hq33⟩ := uncons hq32
      obtain rfl : r33 = [] := List.length_eq_zero_iff.1 hq33
      have h0 : DataW.trod enc Tryd.prog w base spare held nn 5 [c0] = some y0 := by
        have := hf 0 _ rfl
        simpa [lcells_uint8] using this
      have h1 : DataW.trod enc Tryd.prog w base spare held nn 5 [c1] = some y1 := by
        have := hf 1 _ rfl
        simpa [lcells_uint8] using this
      have h2 : DataW.trod enc Tryd.prog w base spare held nn 5 [c2] = some y2 := by
        have := hf 2 _ rfl
        simpa [lcells_uint8] using this
      have h3 : DataW.trod enc Tryd.prog w base spare held nn 22 [c3] = some y3 := by
        have := hf 3 _ rfl
        simpa [lcells_uint32] using this
      have h4 : DataW.trod enc Tryd.prog w base spare held nn 5 [c4] = some y4 := by
        have := hf 4 _ rfl
        simpa [lcells_uint8] using this
      have h5 : DataW.trod enc Tryd.prog w base spare held nn 22 [c5] = some y5 := by
        have := hf 5 _ rfl
        simpa [lcells_uint32] using this
      have h6 : DataW.trod enc Tryd.prog w base spare held nn 5 [c6] = some y6 := by
        have := hf 6 _ rfl
        simpa [lcells_uint8] using this
      have h7 : DataW.trod enc Tryd.prog w base spare held nn 5 [c7] = some y7 := by
        have := hf 7 _ rfl
        simpa [lcells_uint8] using this
      have h8 : DataW.trod enc Tryd.prog w base spare held nn 4 [c8] = some y8 := by
        have := hf 8 _ rfl
        simpa [lcells_bool] using this
      have h9 : DataW.trod enc Tryd.prog w base spare held nn 9 [c9] = some y9 := by
        have := hf 9 _ rfl
        simpa [lcells_string] using this
      have h10 : DataW.trod enc Tryd.prog w base spare held nn 4 [c10] = some y10 := by
        have := hf 10 _ rfl
        simpa [lcells_bool] using this
      have h11 : DataW.trod enc Tryd.prog w base spare held nn 4 [c11] = some y11 := by
        have := hf 11 _ rfl
        simpa [lcells_bool] using this
      have h12 : DataW.trod enc Tryd.prog w base spare held nn 5 [c12] = some y12 := by
        have := hf 12 _ rfl
        simpa [lcells_uint8] using this
      have h13 : DataW.trod enc Tryd.prog w base spare held nn 5 [c13] = some y13 := by
        have := hf 13 _ rfl
        simpa [lcells_uint8] using this
      have h14 : DataW.trod enc Tryd.prog w base spare held nn 22 [c14] = some y14 := by
        have := hf 14 _ rfl
        simpa [lcells_uint32] using this
      have h15 : DataW.trod enc Tryd.prog w base spare held nn 22 [c15] = some y15 := by
        have := hf 15 _ rfl
        simpa [lcells_uint32] using this
      have h16 : DataW.trod enc Tryd.prog w base spare held nn 5 [c16] = some y16 := by
        have := hf 16 _ rfl
        simpa [lcells_uint8] using this
      have h17 : DataW.trod enc Tryd.prog w base spare held nn 22 [c17] = some y17 := by
        have := hf 17 _ rfl
        simpa [lcells_uint32] using this
      have h18 : DataW.trod enc Tryd.prog w base spare held nn 24 [c18, c19, c20, c21, c22] = some y18 := by
        have := hf 18 _ rfl
        simpa [lcells_C] using this
      have h19 : DataW.trod enc Tryd.prog w base spare held nn 22 [c23] = some y19 := by
        have := hf 19 _ rfl
        simpa [lcells_uint32] using this
      have h20 : DataW.trod enc Tryd.prog w base spare held nn 25 [c24] = some y20 := by
        have := hf 20 _ rfl
        simpa [lcells_M] using this
      have h21 : DataW.trod enc Tryd.prog w base spare held nn 26 [c25, c26, c27, c28, c29, c30, c31, c32] = some y21 := by
        have := hf 21 _ rfl
        simpa [lcells_L] using this
      have h22 : DataW.trod enc Tryd.prog w base spare held nn 27 [c33] = some y22 := by
        have := hf 22 _ rfl
        simpa [lcells_E] using this
      obtain ⟨zkind, ekind, _, wkind⟩ := DataW.trod_int Tryd.underlying5 h0
      obtain ⟨kind, rfl, bkind⟩ := nat_u8 wkind
      obtain ⟨zfrm, efrm, _, wfrm⟩ := DataW.trod_int Tryd.underlying5 h1
      obtain ⟨frm, rfl, bfrm⟩ := nat_u8 wfrm
      obtain ⟨zdest, edest, _, wdest⟩ := DataW.trod_int Tryd.underlying5 h2
      obtain ⟨dest, rfl, bdest⟩ := nat_u8 wdest
      obtain ⟨zepoch, eepoch, _, wepoch⟩ := DataW.trod_int Tryd.underlying22 h3
      obtain ⟨epoch, rfl, bepoch⟩ := nat_u32 wepoch
      obtain ⟨zkey, ekey, _, wkey⟩ := DataW.trod_int Tryd.underlying5 h4
      obtain ⟨key, rfl, bkey⟩ := nat_u8 wkey
      obtain ⟨zsn, esn, _, wsn⟩ := DataW.trod_int Tryd.underlying22 h5
      obtain ⟨sn, rfl, bsn⟩ := nat_u32 wsn
      obtain ⟨zsb, esb, _, wsb⟩ := DataW.trod_int Tryd.underlying5 h6
      obtain ⟨sb, rfl, bsb⟩ := nat_u8 wsb
      obtain ⟨zsl, esl, _, wsl⟩ := DataW.trod_int Tryd.underlying5 h7
      obtain ⟨sl, rfl, bsl⟩ := nat_u8 wsl
      obtain ⟨has, ehas, _⟩ := DataW.trod_bool Tryd.underlying4 h8
      obtain ⟨text, etext, _, btext⟩ := DataW.trod_string Tryd.underlying9 h9
      obtain ⟨rmw, ermw, _⟩ := DataW.trod_bool Tryd.underlying4 h10
      obtain ⟨flag, eflag, _⟩ := DataW.trod_bool Tryd.underlying4 h11
      obtain ⟨zdir, edir, _, wdir⟩ := DataW.trod_int Tryd.underlying5 h12
      obtain ⟨dir, rfl, bdir⟩ := nat_u8 wdir
      obtain ⟨zlife, elife, _, wlife⟩ := DataW.trod_int Tryd.underlying5 h13
      obtain ⟨life, rfl, blife⟩ := nat_u8 wlife
      obtain ⟨zreq, ereq, _, wreq⟩ := DataW.trod_int Tryd.underlying22 h14
      obtain ⟨req, rfl, breq⟩ := nat_u32 wreq
      obtain ⟨zbn, ebn, _, wbn⟩ := DataW.trod_int Tryd.underlying22 h15
      obtain ⟨bn, rfl, bbn⟩ := nat_u32 wbn
      obtain ⟨zbb, ebb, _, wbb⟩ := DataW.trod_int Tryd.underlying5 h16
      obtain ⟨bb, rfl, bbb⟩ := nat_u8 wbb
      obtain ⟨zslot, eslot, _, wslot⟩ := DataW.trod_int Tryd.underlying22 h17
      obtain ⟨slot, rfl, bslot⟩ := nat_u32 wslot
      obtain ⟨cmd, ecmd, bcmd⟩ := open_lcmd h18
      obtain ⟨zve, eve, _, wve⟩ := DataW.trod_int Tryd.underlying22 h19
      obtain ⟨ve, rfl, bve⟩ := nat_u32 wve
      obtain ⟨a1, n1, k1, ems⟩ := slice_form Tryd.underlying25 h20
      rw [ems] at h20
      obtain ⟨ms, l1, m1, bms, At1⟩ := slice_list memR 25 76 Tryd.underlying25 lcells_Mem Mem.fine ⟨0, 0, false⟩ (fun _ _ _ h => open_lmem h) h20
      obtain ⟨lv, elv, blv⟩ := open_llv h21
      obtain ⟨a2, n2, k2, ees⟩ := slice_form Tryd.underlying27 h22
      rw [ees] at h22
      obtain ⟨es, l2, m2, bes, At2⟩ := slice_list entR 27 79 Tryd.underlying27 lcells_Ent Ent.fine ⟨0, 0, 0, ⟨0, 0, 0, 0, 0⟩⟩ (fun _ _ _ h => open_lent h) h22
      simp only [List.cons.injEq, and_true] at ekind efrm edest eepoch ekey esn esb esl ehas etext ermw eflag edir elife ereq ebn ebb eslot eve
      simp only [List.cons.injEq, and_true] at ecmd ems elv ees
      obtain ⟨ecmd0, ecmd1, ecmd2, ecmd3, ecmd4⟩ := ecmd
      obtain ⟨elv0, elv1, elv2, elv3, elv4, elv5, elv6, elv7⟩ := elv
      subst ekind efrm edest eepoch ekey esn esb esl ehas etext ermw eflag edir elife ereq ebn ebb eslot ecmd0 ecmd1 ecmd2 ecmd3 ecmd4 eve ems elv0 elv1 elv2 elv3 elv4 elv5 elv6 elv7 ees
      exact ⟨⟨kind, frm, dest, epoch, key, sn, sb, sl, has, text, rmw, flag, dir, life, req, bn, bb, slot, cmd, ve, lv, ms, es⟩, a1, a2, n1, n2, k1, k2, rfl, ⟨bkind, bfrm, bdest, bepoch, bkey, ⟨bsn, bsb, bsl⟩, bdir, blife, breq, ⟨bbn, bbb⟩, bslot, bcmd, bve, blv, bms, bes⟩, l1.symm, l2.symm, m1, m2, btext, At1, At2⟩
end Go.Proofs.YtodajejjhfpdmaaDoor
