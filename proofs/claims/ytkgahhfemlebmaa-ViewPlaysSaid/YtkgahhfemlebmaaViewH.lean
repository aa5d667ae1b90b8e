/-
  The walk of view's First.
-/
import Derived.Test.YtkgahhfemlebmaaViewG
namespace Go.Proofs.Ytkgahhfemlebmaa
open Go.RowKit Go.Instr

def zeroL : Lv := ⟨0, 0, 0, 0, 0, 0, 0, 0⟩
def livesN : Nat → Lv
  | 0 => zeroL
  | k + 1 => (livesN k).set k 1
def firstN (k : Nat) : List Mem := (List.range k).map fun i => ⟨i + 1, 1, true⟩
theorem firstN_succ (k : Nat) : firstN (k + 1) = firstN k ++ [⟨k + 1, 1, true⟩] := by simp [firstN, List.range_succ]
theorem firstN_len (k : Nat) : (firstN k).length = k := by simp [firstN]
/-- The view with which a store of so many nodes begins. -/
def firstV (n : Nat) : Vw := ⟨1, livesN n, firstN n⟩
/-- What First leaves. -/
def FirP (w : World) (r : Vw) (err : Int) (en : Ending) (w' : World) : Prop := ∃ s, en = .returned (.tuple #[.agg (vC r.e s r.lv), .int .i64 err]) ∧ MemsAt w' s r.l ∧ Below w.heap.size w w'
set_option maxHeartbeats 1000000 in
theorem first_no (n : Int) (w : World) (h : n < 1 ∨ 8 < n) : Calls Try.prog 7 #[.int .i64 n] w (FirP w ⟨0, zeroL, []⟩ 1) := by
  rcases h with h | h
  · go_enter Try.func7, Try.ntmps7
    go_wp2
    refine bodyPost_ret (v := .tuple #[.agg (vC 0 (.slice none 0 0) zeroL), .int .i64 1]) ?_ rfl ⟨_, rfl, .inl ⟨rfl, rfl⟩, ?_⟩
    · simp [results, Try.results7, go_sem, zeroL]
    · go_grown
  · have h' : ¬ n < 1 := by omega
    go_enter Try.func7, Try.ntmps7
    go_wp2
    refine bodyPost_ret (v := .tuple #[.agg (vC 0 (.slice none 0 0) zeroL), .int .i64 1]) ?_ rfl ⟨_, rfl, .inl ⟨rfl, rfl⟩, ?_⟩
    · simp [results, Try.results7, go_sem, zeroL]
    · go_grown
/-- What stands at the loop's head. -/
def FirLoop (w : World) (R V n : Nat) (i : Value) (wr : World) : Prop :=
  ∃ k s, k ≤ n ∧ i = .int .i64 (k : Nat) ∧ Blk wr R (vC 0 (.slice none 0 0) zeroL) 28 ∧ Blk wr V (vC 1 s (livesN k)) 28 ∧ OwnM wr w.heap.size s (firstN k) ∧ Below w.heap.size w wr
set_option maxHeartbeats 1000000 in
theorem first_yes (n : Nat) (w : World) (h1 : 1 ≤ n) (h8 : n ≤ 8) : Calls Try.prog 7 #[.int .i64 n] w (FirP w (firstV n) 0) := by
  obtain ⟨i0, hi0, hz0, hz1, hz2⟩ := infoP52
  have HI := Lib.hid (And.intro hi0 (And.intro hz0 (And.intro hz1 hz2)))
  clear hi0 hz0 hz1 hz2
  have hR : Hid (Blk (w.alloc (.cells (vC 0 (.slice none 0 0) zeroL) 28)) w.heap.size (vC 0 (.slice none 0 0) zeroL) 28) := Lib.hid (Blk.new rfl)
  go_enter Try.func7, Try.ntmps7
  go_wp2
  go_loopw [15] (fun i wr => FirLoop w w.heap.size (w.heap.size + 1) n i wr) (fun i _ => (n - (intOf i).toNat))
  case atStart => exact ⟨0, .slice none 0 0, by omega, rfl, hR.out.alloc _, Blk.new (by simp), World.ownsRow_nil _ _ _ _, by go_grown⟩
  case round =>
    obtain ⟨k, s, hk, rfl, hr, hv, ho, hb⟩ := hrel
    obtain ⟨a, cap, rfl⟩ := ho.mems.len
    rw [firstN_len] at hv ho
    have HR := Lib.hid hr
    have HV := Lib.hid hv
    have HO := Lib.hid ho
    have HB := Lib.hid hb
    obtain ⟨V, hV⟩ : ∃ V, V = w.heap.size + 1 := ⟨_, rfl⟩
    rw [← hV] at HV
    simp only [← hV]
    have HVE := Lib.hid hV
    have hVw : V < wr.heap.size := HV.out.lt
    clear hr hv ho hb hR hV
    by_cases hlt : k < n
    · have d1 := HV.out.cell 1
      simp at d1
      have hne : V ≠ wr.heap.size := by omega
      have HOA := Lib.hid (HO.out.al (.cells #[.int .u8 (k + 1), .int .u8 1, .bool true] 52))
      go_wp2_with (at_builtin; refine wpList_append_own1 _ rfl _ _ 25 rfl w.heap.size 52 i0 _ 3 3 Try.underlying25 HI.out.1 HI.out.2.1 HI.out.2.2.1 HI.out.2.2.2 rfl (by decide) (.slice a k cap) (firstN k).length (mRow (firstN k)) rfl HOA.out ⟨wr.heap.size, 0, none⟩ 1 1 [.int .u8 (k + 1), .int .u8 1, .bool true] rfl rfl ?qn (oneCells3 _ _ _ rfl rfl rfl) (by rw [firstN_len]; unfold maxLen; omega) (by rw [firstN_len]; omega) (by have := HB.out.size; simp; omega) (by decide) ?_)
      case qn => exact news3 (by simp) (by simp) (by simp)
      intro g cap2 w3 hg hown hgrow
      rw [firstN_len] at hown
      have HOW : Hid (OwnM w3 w.heap.size (.slice (some ⟨g, 0, none⟩) (k + 1) cap2) (firstN (k + 1))) := Lib.hid (by unfold OwnM; rw [firstN_succ, mRow_snoc, List.length_append, firstN_len]; exact hown)
      have hvB : some V ≠ (Value.slice a k cap).ownBlock := Ne.symm (own_ne HO.out HV.out (by decide))
      have hvR : some w.heap.size ≠ (Value.slice a k cap).ownBlock := Ne.symm (own_ne HO.out HR.out (by decide))
      have HV3 := Lib.hid (((HV.out.alloc (.cells #[.int .u8 (k + 1), .int .u8 1, .bool true] 52)).grown hgrow hvB))
      have HR3 := Lib.hid (((HR.out.alloc (.cells #[.int .u8 (k + 1), .int .u8 1, .bool true] 52)).grown hgrow hvR))
      have HB3 : Hid (Below w.heap.size w w3) := Lib.hid (((HB.out.alloc (by have := HB.out.size; omega) _).grown hgrow (by have := HB.out.size; simp; omega) (fun j hj => (HO.out.lt j hj).1)))
      clear hown hgrow d1 hne
      have d1 := HV3.out.cell 1
      have f1 := HV3.out.frozen 1
      have fk := HV3.out.frozen (2 + k)
      have dk := HV3.out.cell (2 + k)
      rw [vC_get _ _ _ (by omega)] at dk
      simp at d1
      go_wp2
      go_roundw
      case rel =>
        refine ⟨k + 1, .slice (some ⟨g, 0, none⟩) (k + 1) cap2, by omega, by go_num, ?_, ?_, ?_, ?_⟩
        · exact (HR3.out.set_other 1 _ (by have := HVE.out; omega)).set_other (2 + k) _ (by have := HVE.out; omega)
        · rw [firstN_len]
          exact Blk.set (Blk.set HV3.out 1 _ (vC 1 (.slice (some ⟨g, 0, none⟩) (k + 1) cap2) (livesN k)) rfl) (2 + k) _ _ (vC_set _ _ _ 1 (by omega))
        · exact (HOW.out.set HV3.out).set (Blk.set HV3.out 1 _ _ rfl)
        · have := HB3.out
          have := HVE.out
          go_grown
      case measure => simp [intOf]; omega
    · obtain rfl : k = n := by omega
      obtain ⟨d0, d1, d2, d3, d4, d5, d6, d7, d8, d9⟩ := HV.out.ten
      obtain ⟨e0, e1, e2, e3, e4, e5, e6, e7, e8, e9⟩ := HR.out.ten
      have f0 := HR.out.frozen 0
      have f1 := HR.out.frozen 1
      have f2 := HR.out.frozen 2
      have f3 := HR.out.frozen 3
      have f4 := HR.out.frozen 4
      have f5 := HR.out.frozen 5
      have f6 := HR.out.frozen 6
      have f7 := HR.out.frozen 7
      have f8 := HR.out.frozen 8
      have f9 := HR.out.frozen 9
      obtain ⟨lv, hlv⟩ : ∃ lv, lv = livesN k := ⟨_, rfl⟩
      rw [← hlv] at d2 d3 d4 d5 d6 d7 d8 d9
      have HLV := Lib.hid hlv
      clear hlv
      go_wp2
      obtain ⟨wf, hwf⟩ : ∃ wf, wf = (((((((((wr.setCell ⟨w.heap.size, 0, none⟩ (.int .u32 (1 : Nat))).setCell ⟨w.heap.size, 1, none⟩ (.slice a k cap)).setCell ⟨w.heap.size, 2, none⟩ (.int .u8 lv.a)).setCell ⟨w.heap.size, 3, none⟩ (.int .u8 lv.b)).setCell ⟨w.heap.size, 4, none⟩ (.int .u8 lv.c)).setCell ⟨w.heap.size, 5, none⟩ (.int .u8 lv.d)).setCell ⟨w.heap.size, 6, none⟩ (.int .u8 lv.e)).setCell ⟨w.heap.size, 7, none⟩ (.int .u8 lv.f)).setCell ⟨w.heap.size, 8, none⟩ (.int .u8 lv.g)).setCell ⟨w.heap.size, 9, none⟩ (.int .u8 lv.h) := ⟨_, rfl⟩
      have hwf2 := hwf
      simp only [Int.cast_ofNat_Int] at hwf2
      obtain ⟨hF, hFB, hFs, hFo⟩ := fill_view HR.out 1 a lv wf hwf
      have HM5 := Lib.hid (HO.out.mems.but HR.out (by omega) (fun k _ hk => hFo k hk))
      have HB5 : Hid (Below w.heap.size w wf) := Lib.hid (HB.out.trans hFB)
      clear hwf hFB hFs hFo d0 d1 d2 d3 d4 d5 d6 d7 d8 d9 e0 e1 e2 e3 e4 e5 e6 e7 e8 e9 f0 f1 f2 f3 f4 f5 f6 f7 f8 f9
      obtain ⟨x0, x1, x2, x3, x4, x5, x6, x7, x8, x9⟩ := hF.ten
      rw [← hwf2]
      refine bodyPost_ret (v := .tuple #[.agg (vC 1 (.slice a k cap) lv), .int .i64 0]) ?_ rfl ⟨_, by rw [HLV.out]; rfl, HM5.out, HB5.out⟩
      simp [results, Try.results7, go_sem, x0, x1, x2, x3, x4, x5, x6, x7, x8, x9]
end Go.Proofs.Ytkgahhfemlebmaa
