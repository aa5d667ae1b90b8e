/-
  The law PaceJudges: the walk.
-/
import Derived.Test.YtlphlmpfjpombaaJudR
import Derived.Deep.CutBlock
namespace Go.Proofs.Ytlphlmpfjpombaa
open Go.RowKit Go.Instr

theorem Try.info58 : (Try.prog.info? 58).map (fun i => (i.zero, i.size, i.bytes)) = some (some (.agg #[.int .i64 0, .int .i64 0]), 2, 16) := by kernel_rfl
theorem infoP58 : ∃ i, Try.prog.info? 58 = some i ∧ i.zero = some (.agg #[.int .i64 0, .int .i64 0]) ∧ i.size = 2 ∧ i.bytes = 16 := by
  have h := Try.info58
  rcases hi : Try.prog.info? 58 with _ | i
  · rw [hi] at h; cases h
  · rw [hi] at h
    simp only [Option.map_some, Option.some.injEq, Prod.mk.injEq] at h
    exact ⟨i, rfl, h.1, h.2.1, h.2.2⟩
/-- All blocks of other types than the reference's acts are as they were. -/
def KeptA (w w' : World) : Prop := ∀ (k : Nat) (C : Array Value) (T : TypeId) (fz : Nat × Nat), w.heap[k]? = some (.cells C T fz) → T ≠ 58 → w'.heap[k]? = w.heap[k]?
theorem keptA_grown {wa w' : World} {base n : Nat} {s : Value} {xs : List Value} (ho : wa.ownsRow base 58 2 s n xs) (hg : wa.grownBy w' s.ownBlock) : KeptA wa w' := fun k C T fz hk hT =>
  hg.block k (Array.getElem?_eq_some_iff.1 hk).1 (fun e => by
    obtain ⟨cur, hc⟩ := own_heap ho e.symm
    rw [hk] at hc
    simp only [Option.some.injEq, Obj.cells.injEq] at hc
    exact hT hc.2.1)
theorem PaceE.keptA {wa w' : World} {base P : Nat} {p : Pc} (h : PaceE wa base P p) (hk : KeptA wa w') : PaceE w' base P p := by
  obtain ⟨mb, mc, nb, nc, xs, h⟩ := h
  refine ⟨mb, mc, nb, nc, xs, (hk P _ 80 _ h.blk (by decide)).trans h.blk, h.ms.block fun g hg => ?_, h.ns.block fun g hg => ?_, h.len, fun i hi hi' => ⟨(h.sp i hi hi').1, (h.sp i hi hi').2.keep (fun g hg => ?_) (fun k C fz hc _ => hk k C 3 fz hc (by decide))⟩, h.apart⟩
  · obtain ⟨cur, hc⟩ := own_heap h.ms hg
    exact hk _ _ _ _ hc (by decide)
  · obtain ⟨cur, hc⟩ := own_heap h.ns hg
    exact hk _ _ _ _ hc (by decide)
  · obtain ⟨ys, ho, _⟩ := (h.sp i hi hi').2
    obtain ⟨cur, hc⟩ := own_heap ho hg
    exact hk _ _ _ _ hc (by decide)
theorem own58 {w w' : World} {base : Nat} {s : Value} {l : List Ac} (h : acR.Own 58 w base s l) (hk : KeptP w w') : acR.Own 58 w' base s l := h.block fun g hg => by
  obtain ⟨cur, hc⟩ := own_heap h hg
  exact hk.2 _ _ _ _ hc (by decide) (by decide) (by decide) (by decide)
theorem Fair_b (base P : Nat) (p : Pc) (r : Bool) (w : World) (hp : PaceE w base P p) (hr : (!p.bad) = r) : Calls Try.prog 24 #[.pointer (some ⟨P, 0, none⟩)] w fun e w' => e = .returned (.bool r) ∧ Below w.heap.size w w' :=
  (Fair_is base P p r w hp hr).mono fun _ _ ⟨h1, h2⟩ => ⟨h1, h2 ▸ Below.refl _ _⟩
def AskN (w : World) (e : Ending) (w' : World) : Prop := e = .returned (.tuple #[]) ∧ Below w.heap.size w w'
theorem Ask_nil (i : Int) (w : World) : Calls Try.prog 27 #[.pointer none, .int .i64 i] w (AskN w) := by
  go_enter Try.func27, Try.ntmps27
  go_wp2_with (refine (find_nil i _).mono ?_; rintro en w1 ⟨rfl, rfl⟩)
  go_quiet (fail)
  go_wp2
  go_end0
  exact ⟨rfl, rfl, rfl, rfl, Nat.le_refl _, fun _ _ => rfl⟩
/-- The pace and the acts so far. -/
def JudAt (w1 : World) (P h wt m nn k : Nat) (L : List Ac) (p : Pc) (s8 : Value) (wr : World) : Prop := L.length = k ∧ (∀ x ∈ L, acF x) ∧ Jv h wt m nn p (spansOf h wt m nn L) ∧ p.fine k ∧ PaceE wr w1.heap.size P p ∧ acR.Own 58 wr w1.heap.size s8 L ∧ Below w1.heap.size w1 wr
def JudLoop (w1 : World) (P h wt m nn len g : Nat) (s8 s9 : Value) (wr : World) : Prop := ∃ (k : Nat) (L : List Ac) (p : Pc), s9 = .int .i64 k ∧ k + g = len ∧ k ≤ 60 ∧ JudAt w1 P h wt m nn k L p s8 wr
/-- What stands behind the act. -/
def JudMid (w1 : World) (P h wt m nn k : Nat) (L : List Ac) (s8 : Value) (wx : World) : Prop := ∃ p : Pc, JudAt w1 P h wt m nn (k + 1) L p s8 wx
theorem m_below_on' {w0 w1 w2 : World} (h : Below w0.heap.size w0 w1) (h' : Below w1.heap.size w1 w2) : Below w0.heap.size w0 w2 := m_below_on h h'
theorem JudAt.on {w1 wr w2 : World} {P h wt m nn k : Nat} {L : List Ac} {p : Pc} {s8 : Value} (hJ : JudAt w1 P h wt m nn k L p s8 wr) (hB : Below wr.heap.size wr w2) : JudAt w1 P h wt m nn k L p s8 w2 :=
  ⟨hJ.1, hJ.2.1, hJ.2.2.1, hJ.2.2.2.1, hJ.2.2.2.2.1.on hB, hJ.2.2.2.2.2.1.on hB, m_below_on' hJ.2.2.2.2.2.2 hB⟩
theorem at0_succ (y : Int) (i : Nat) : Ac.at0 (y, (i : Int) + 1) = i := by unfold Ac.at0; simp only; omega
set_option maxHeartbeats 8000000 in
set_option maxRecDepth 100000 in
theorem judge_good (m nn h wt : Nat) (l : List (Int × Int)) (a : Option Addr) (len cap : Nat) (w : World) (h1 : 1 ≤ m ∧ m ≤ 5) (h2 : 1 ≤ nn ∧ nn ≤ 8) (h3 : 1 ≤ h ∧ h ≤ 1000) (h4 : 1 ≤ wt ∧ wt ≤ 1000) (hlen : len ≤ maxLen) (hl : l.length = len) (hf : ∀ x ∈ l, acF x) (hA : 0 < len → acR.At w (.slice a len cap) l) :
    Calls Try.prog 5 #[.agg #[.int .i64 m, .int .i64 nn, .int .i64 h, .int .i64 wt], .slice a len cap] w fun e w' => e = .returned (.bool true) ∧ Below w.heap.size w w' := by
  unfold maxLen at hlen
  have HA := Lib.hid hA
  have HF := Lib.hid hf
  have HL := Lib.hid hl
  clear hA hf hl
  go_enter Try.func5, Try.ntmps5
  go_upto_region 3 with (go_at_call 22; (refine (speaks8 _).mono ?_); rintro en w1 ⟨rfl, hB⟩; have HBw := Lib.hid (m_below_on below_al1 hB); have HC := Lib.hid ((Blk.new (w := w) (cs := #[.int .i64 m, .int .i64 nn, .int .i64 h, .int .i64 wt]) (T := 50) rfl).on hB); clear hB)
  have c0 : w1.cell? ⟨w.heap.size, 0, none⟩ = some (.int .i64 m) := HC.out.cell 0
  have c1 : w1.cell? ⟨w.heap.size, 1, none⟩ = some (.int .i64 nn) := HC.out.cell 1
  have c2 : w1.cell? ⟨w.heap.size, 2, none⟩ = some (.int .i64 h) := HC.out.cell 2
  have c3 : w1.cell? ⟨w.heap.size, 3, none⟩ = some (.int .i64 wt) := HC.out.cell 3
  go_upto_region 4 with (go_at_call 23; (refine (New_ok m nn h wt _ h1.1 h1.2 h2.1 h2.2 h3.1 h3.2 h4.1 h4.2).mono ?_); rintro en w2 ⟨P, hP, rfl, hA, hB⟩; have HP := Lib.hid hP; have HA2 := Lib.hid hA; have HB2 := Lib.hid hB; clear hP hA hB)
  have HC2 := Lib.hid (HC.out.on HB2.out)
  clear c0 c1 c2 c3
  have c0 : w2.cell? ⟨w.heap.size, 0, none⟩ = some (.int .i64 m) := HC2.out.cell 0
  have c1 : w2.cell? ⟨w.heap.size, 1, none⟩ = some (.int .i64 nn) := HC2.out.cell 1
  have c2 : w2.cell? ⟨w.heap.size, 2, none⟩ = some (.int .i64 h) := HC2.out.cell 2
  have c3 : w2.cell? ⟨w.heap.size, 3, none⟩ = some (.int .i64 wt) := HC2.out.cell 3
  have q1 : decide ((1 : Int) ≤ m) = true := decide_eq_true (by omega)
  have q2 : decide ((m : Int) ≤ 5) = true := decide_eq_true (by omega)
  have q3 : decide ((1 : Int) ≤ nn) = true := decide_eq_true (by omega)
  have q4 : decide ((nn : Int) ≤ 8) = true := decide_eq_true (by omega)
  have q5 : decide ((1 : Int) ≤ h) = true := decide_eq_true (by omega)
  have q6 : decide ((h : Int) ≤ 1000) = true := decide_eq_true (by omega)
  have q7 : decide ((1 : Int) ≤ wt) = true := decide_eq_true (by omega)
  have q8 : decide ((wt : Int) ≤ 1000) = true := decide_eq_true (by omega)
  go_upto_region 9 with fail
  have HST : Hid (JudLoop w1 P h wt m nn len len (.slice none 0 0) (.int .i64 0) w2) := Lib.hid ⟨0, [], _, rfl, Nat.zero_add _, by decide, rfl, fun x hx => (by cases hx), Jv.start h wt m nn, Pc.fine.start h1 h2 h3 h4, HA2.out, World.ownsRow_nil _ _ _ _, HB2.out⟩
  clear HA2 HB2 c0 c1 c2 c3 q1 q2 q3 q4 q5 q6 q7 q8 HC2
  have hCw : w.heap.size ≤ w1.heap.size := HBw.out.size
  go_wp2_with fail
  go_loopg [8, 9] len (fun g s8 s9 wr => JudLoop w1 P h wt m nn len g s8 s9 wr)
  case atStart => exact HST.out
  case round =>
    obtain ⟨k, L, p, rfl, hkg, hk60, hJ⟩ := hrel
    clear HST
    have HJ := Lib.hid hJ
    clear hJ
    by_cases hlk : k < len ∧ k < 60
    · obtain ⟨hlk, hk1⟩ := hlk
      have hkd : decide ((k : Int) < 60) = true := decide_eq_true (by omega)
      have hkl : k < l.length := by rw [HL.out]; exact hlk
      obtain ⟨b, off, cc, he, hbw, hcells⟩ := ((HA.out (by omega))).form (by omega)
      simp only [Value.slice.injEq] at he
      obtain ⟨rfl, hnn, rfl⟩ := he
      clear hnn
      have x0 := hcells k hkl 0 _ rfl
      have x1 := hcells k hkl 1 _ rfl
      have hx := HF.out _ (List.getElem_mem hkl)
      obtain ⟨x, hxx⟩ : ∃ x, l[k] = x := ⟨_, rfl⟩
      rw [hxx] at x0 x1 hx
      clear hxx hcells
      obtain ⟨xw, xi⟩ := x
      obtain ⟨⟨g1, g2⟩, ⟨g3, g4⟩⟩ := hx
      simp only at g1 g2 g3 g4
      have HBJ := Lib.hid HJ.out.2.2.2.2.2.2
      have hBw1 : Below w.heap.size w wr := HBw.out.trans (HBJ.out.mono hCw)
      replace x0 : wr.cell? ⟨b, off + k * 2, none⟩ = some (.int .i64 xw) := (hBw1.cell (p := ⟨b, off + k * 2, none⟩) hbw).trans x0
      replace x1 : wr.cell? ⟨b, off + k * 2 + 1, none⟩ = some (.int .i64 xi) := (hBw1.cell (p := ⟨b, off + k * 2 + 1, none⟩) hbw).trans x1
      have hbwr : b < wr.heap.size := World.block_lt_of_cell? _ _ x1
      have z0 : (wr.alloc (.cells #[.int .i64 0, .int .i64 0] 58)).cell? ⟨b, off + k * 2, none⟩ = some (.int .i64 xw) := (below_al1.cell (p := ⟨b, off + k * 2, none⟩) hbwr).trans x0
      have z1 : (wr.alloc (.cells #[.int .i64 0, .int .i64 0] 58)).cell? ⟨b, off + k * 2 + 1, none⟩ = some (.int .i64 xi) := (below_al1.cell (p := ⟨b, off + k * 2 + 1, none⟩) hbwr).trans x1
      clear hBw1
      obtain ⟨r4, hr4⟩ : ∃ r4, xw.tmod 4 = r4 := ⟨_, rfl⟩
      have hr41 : -4 < r4 := by rw [← hr4]; exact Int.lt_tmod_of_pos xw (by decide)
      have hr42 : r4 < 4 := by rw [← hr4]; exact Int.tmod_lt_of_pos xw (by decide)
      have hrr : (r4 + 4).tmod 4 = (r4 + 4) % 4 := Int.tmod_eq_emod_of_nonneg (by omega)
      obtain ⟨y, hy⟩ : ∃ y, 1 + r4 % 4 = y := ⟨_, rfl⟩
      have HY : Hid (y = 1 ∨ y = 2 ∨ y = 3 ∨ y = 4) := Lib.hid (by omega)
      go_upto_region 11 with fail
      go_cut [10] (fun s10 wx => ∃ (D : Nat) (w3 : World), w3 = wx ∧ s10 = .pointer (some ⟨D, 0, none⟩) ∧ Blk w3 D #[.int .i64 y, .int .i64 xi] 58 ∧ JudAt w1 P h wt m nn k L p u8 w3 ∧ ∀ g, u8.ownBlock = some g → g ≠ D)
      case first =>
        go_region
        all_goals
          go_wp2
          go_meet
          have hb : Blk (wr.alloc (.cells #[.int .i64 y, .int .i64 xi] 58)) wr.heap.size #[.int .i64 y, .int .i64 xi] 58 := Blk.new rfl
          have hB := below_al1 (w := wr) (o := .cells #[.int .i64 y, .int .i64 xi] 58)
          exact ⟨wr.heap.size, _, rfl, rfl, hb, HJ.out.on ⟨hB.os, hB.tape, hB.output, hB.size, hB.block⟩, fun g hg => by have := (World.ownsRow.lt HJ.out.2.2.2.2.2.1 g hg).2; omega⟩
      case rest =>
        obtain ⟨D, w3, hw3, rfl, hDb, hJ3, hDg⟩ := hcut
        subst hw3
        have HF58 : Hid (acF (y, xi)) := Lib.hid ⟨by have := HY.out; simp only; omega, g3, g4⟩
        clear x0 x1 z0 z1 hbwr HBJ HJ hr4 hr41 hr42 hrr hy
        have HD := Lib.hid hDb
        obtain ⟨hLk, hLf, hV, hFi, hPA, hOw, hBw3⟩ := hJ3
        have HV := Lib.hid hV
        have HFI := Lib.hid hFi
        have HPA3 := Lib.hid hPA
        have HB3 := Lib.hid hBw3
        have HLL : Hid ((L ++ [(y, xi)]).length = k + 1) := Lib.hid (by rw [List.length_append, hLk]; rfl)
        have HLF : Hid (∀ x ∈ L ++ [(y, xi)], acF x) := Lib.hid (fun x hx => by
          rcases List.mem_append.1 hx with hx | hx
          · exact hLf x hx
          · rw [List.mem_singleton.1 hx]; exact HF58.out)
        obtain ⟨a8, c8, rfl⟩ := hOw.at.len
        rw [hLk] at hOw hDg
        have HO3 : Hid (w3.ownsRow w1.heap.size 58 2 (.slice a8 k c8) k (acR.row L)) := Lib.hid (by have := hOw; unfold RK.Own at this; rw [hLk] at this; exact this)
        have HDG := Lib.hid hDg
        simp only [hLk]
        have HLK := Lib.hid hLk
        have hw3s : w1.heap.size ≤ w3.heap.size := hBw3.size
        have d0 : w3.cell? ⟨D, 0, none⟩ = some (.int .i64 y) := HD.out.cell 0
        have d1 : w3.cell? ⟨D, 1, none⟩ = some (.int .i64 xi) := HD.out.cell 1
        have HD0 := Lib.hid d0
        have HD1 := Lib.hid d1
        obtain ⟨i0, hi0, hz0, hz1, hz2⟩ := infoP58
        have HI := Lib.hid (And.intro hi0 (And.intro hz0 (And.intro hz1 hz2)))
        have HOA := Lib.hid (World.ownsRow.alloc HO3.out (.cells #[.int .i64 y, .int .i64 xi] 58))
        clear hi0 hz0 hz1 hz2 hDb hLf hV hFi hPA hOw hBw3 hDg hLk
        go_upto_region 12 with fail
        go_wp2_with (at_builtin; refine wpList_append_own1 _ rfl _ _ 55 rfl w1.heap.size 58 i0 _ 2 16 Try.underlying55 HI.out.1 HI.out.2.1 HI.out.2.2.1 HI.out.2.2.2 rfl (by decide) _ k _ rfl HOA.out ⟨w3.heap.size, 0, none⟩ 1 1 [.int .i64 y, .int .i64 xi] rfl rfl ?qn (ones2 rfl rfl) (by unfold maxLen; omega) (by omega) (by simp; omega) (by decide) ?_)
        case qn => exact news2 (by simp) (by simp)
        intro g cap' w7 hg hown hgrow
        have HOW : Hid (acR.Own 58 w7 w1.heap.size (.slice (some ⟨g, 0, none⟩) (k + 1) cap') (L ++ [(y, xi)])) := Lib.hid (by
          unfold RK.Own
          rw [List.length_append, RK.row_snoc, HLK.out]
          exact hown)
        have HKA := Lib.hid (keptA_grown HOA.out hgrow)
        have HPA := Lib.hid ((HPA3.out.on below_al1).keptA HKA.out)
        have HB7 := Lib.hid ((HB3.out.alloc hw3s _).grown hgrow (by simp; omega) (fun j hj => (World.ownsRow.lt HOA.out j hj).1))
        have hdr : ∀ j v, w3.cell? ⟨D, j, none⟩ = some v → w7.cell? ⟨D, j, none⟩ = some v := fun j v hv => cell_grow hv below_al1 hgrow (fun e => HDG.out D e.symm rfl)
        have d0' := hdr 0 _ HD0.out
        have d1' := hdr 1 _ HD1.out
        have hw7s : w1.heap.size ≤ w7.heap.size := HB7.out.size
        clear hown hgrow hdr d0 d1 HPA3 HB3 HD0 HD1 HDG HO3 HOA HKA hw3s
        go_upto_block 2 with fail
        go_cut [117] (fun _ wx => JudMid w1 P h wt m nn k (L ++ [(y, xi)]) (.slice (some ⟨g, 0, none⟩) (k + 1) cap') wx)
        case first =>
          rcases HY.out with rfl | rfl | rfl | rfl
          · -- master
            by_cases hin : 1 ≤ xi ∧ xi ≤ (m : Int)
            · obtain ⟨i, rfl⟩ : ∃ i : Nat, xi = (i : Int) + 1 := ⟨(xi - 1).toNat, by omega⟩
              have hil : Hid (i < p.ms.length) := Lib.hid (by rw [HV.out.ms]; omega)
              have hjv := HV.out.master (x := ((1 : Int), (i : Int) + 1)) ⟨rfl, hin.1, hin.2⟩
              rw [at0_succ] at hjv
              have HJV := Lib.hid hjv
              clear hjv hin
              go_wp2_with (go_at_call 25; (refine (Master_yes w1.heap.size P p i k _ HPA.out HFI.out (by omega) HP.out hil.out).mono ?_); rintro en w8 ⟨rfl, hA, hB, hK⟩; have HA8 := Lib.hid hA; have HB8 := Lib.hid (HB7.out.trans hB); have HK8 := Lib.hid hK; clear hA hB hK)
              go_meet
              exact ⟨_, HLL.out, HLF.out, by rw [spansOf_snoc]; exact HJV.out, HFI.out.master, HA8.out, own58 HOW.out HK8.out, HB8.out⟩
            · have hnin : Hid (xi < 1 ∨ (p.ms.length : Int) < xi) := Lib.hid (by rw [HV.out.ms]; omega)
              have hjv := HV.out.none (x := ((1 : Int), xi)) (by rintro ⟨a, b, c⟩; simp only at a b c; omega) (.inr rfl)
              have HJV := Lib.hid hjv
              clear hjv hin
              go_wp2_with (go_at_call 25; (refine (Master_no w1.heap.size P p xi _ HPA.out hw7s hnin.out).mono ?_); rintro en w8 ⟨rfl, hA, hB, hK⟩; have HA8 := Lib.hid hA; have HB8 := Lib.hid (HB7.out.trans hB); have HK8 := Lib.hid hK; clear hA hB hK)
              go_meet
              exact ⟨p, HLL.out, HLF.out, by rw [spansOf_snoc]; exact HJV.out, HFI.out.more, HA8.out, own58 HOW.out HK8.out, HB8.out⟩
          · -- node
            by_cases hin : 1 ≤ xi ∧ xi ≤ (nn : Int)
            · obtain ⟨i, rfl⟩ : ∃ i : Nat, xi = (i : Int) + 1 := ⟨(xi - 1).toNat, by omega⟩
              have hil : Hid (i < p.ns.length) := Lib.hid (by rw [HV.out.ns]; omega)
              have hjv := HV.out.node (x := ((2 : Int), (i : Int) + 1)) rfl hin.1
              rw [at0_succ] at hjv
              have HJV := Lib.hid hjv
              clear hjv hin
              go_wp2_with (go_at_call 26; (refine (Node_yes w1.heap.size P p i k _ HPA.out HFI.out (by omega) hw7s hil.out).mono ?_); rintro en w8 ⟨rfl, hA, hB, hK⟩; have HA8 := Lib.hid hA; have HB8 := Lib.hid (HB7.out.trans hB); have HK8 := Lib.hid hK; clear hA hB hK)
              go_meet
              exact ⟨_, HLL.out, HLF.out, by rw [spansOf_snoc]; exact HJV.out, HFI.out.node, HA8.out, own58 HOW.out HK8.out, HB8.out⟩
            · have hnin : Hid (xi < 1 ∨ (p.ns.length : Int) < xi) := Lib.hid (by rw [HV.out.ns]; omega)
              have hjv := HV.out.none (x := ((2 : Int), xi)) (by rintro ⟨a, b, c⟩; simp only at a b c; omega) (.inl hin)
              have HJV := Lib.hid hjv
              clear hjv hin
              go_wp2_with (go_at_call 26; (refine (Node_no w1.heap.size P p xi _ HPA.out hw7s hnin.out).mono ?_); rintro en w8 ⟨rfl, hA, hB, hK⟩; have HA8 := Lib.hid hA; have HB8 := Lib.hid (HB7.out.trans hB); have HK8 := Lib.hid hK; clear hA hB hK)
              go_meet
              exact ⟨p, HLL.out, HLF.out, by rw [spansOf_snoc]; exact HJV.out, HFI.out.more, HA8.out, own58 HOW.out HK8.out, HB8.out⟩
          · -- ask
            by_cases hin : 1 ≤ xi ∧ xi ≤ (nn : Int)
            · obtain ⟨i, rfl⟩ : ∃ i : Nat, xi = (i : Int) + 1 := ⟨(xi - 1).toNat, by omega⟩
              have hil : Hid (i < p.ns.length) := Lib.hid (by rw [HV.out.ns]; omega)
              have hjv := HV.out.ask (x := ((3 : Int), (i : Int) + 1)) h3.1 rfl hin.1 hin.2
              rw [at0_succ] at hjv
              have HJV := Lib.hid hjv
              clear hjv hin
              go_wp2_with (go_at_call 27; (refine (Ask_any w1.heap.size P p i k _ HPA.out HFI.out (by omega) hw7s hil.out).mono ?_); rintro en w8 ⟨rfl, hA, hB, hK⟩; have HA8 := Lib.hid hA; have HB8 := Lib.hid (HB7.out.trans hB); have HK8 := Lib.hid hK; clear hA hB hK)
              go_meet
              exact ⟨_, HLL.out, HLF.out, by rw [spansOf_snoc]; exact HJV.out, HFI.out.ask, HA8.out, own58 HOW.out HK8.out, HB8.out⟩
            · have hnin : Hid (xi < 1 ∨ (p.ns.length : Int) < xi) := Lib.hid (by rw [HV.out.ns]; omega)
              have hjv := HV.out.none (x := ((3 : Int), xi)) (by rintro ⟨a, b, c⟩; simp only at a b c; omega) (.inl hin)
              have HJV := Lib.hid hjv
              clear hjv hin
              go_wp2_with (go_at_call 27; (refine (Ask_no w1.heap.size P p xi _ HPA.out hw7s hnin.out).mono ?_); rintro en w8 ⟨rfl, hA, hB, hK⟩; have HA8 := Lib.hid hA; have HB8 := Lib.hid (HB7.out.trans hB); have HK8 := Lib.hid hK; clear hA hB hK)
              go_meet
              exact ⟨p, HLL.out, HLF.out, by rw [spansOf_snoc]; exact HJV.out, HFI.out.more, HA8.out, own58 HOW.out HK8.out, HB8.out⟩
          · -- stop
            by_cases hin : 1 ≤ xi ∧ xi ≤ (nn : Int)
            · obtain ⟨i, rfl⟩ : ∃ i : Nat, xi = (i : Int) + 1 := ⟨(xi - 1).toNat, by omega⟩
              have hil : Hid (i < p.ns.length) := Lib.hid (by rw [HV.out.ns]; omega)
              have hjv := HV.out.stop (x := ((4 : Int), (i : Int) + 1)) rfl hin.1
              rw [at0_succ] at hjv
              have HJV := Lib.hid hjv
              clear hjv hin
              go_wp2_with (go_at_call 28; (refine (Stop_yes w1.heap.size P p i k _ HPA.out HFI.out hil.out).mono ?_); rintro en w8 ⟨rfl, hA, hB, hK⟩; have HA8 := Lib.hid hA; have HB8 := Lib.hid (HB7.out.trans hB); have HK8 := Lib.hid hK; clear hA hB hK)
              go_meet
              exact ⟨_, HLL.out, HLF.out, by rw [spansOf_snoc]; exact HJV.out, HFI.out.stop, HA8.out, own58 HOW.out HK8.out, HB8.out⟩
            · have hnin : Hid (xi < 1 ∨ (p.ns.length : Int) < xi) := Lib.hid (by rw [HV.out.ns]; omega)
              have hjv := HV.out.none (x := ((4 : Int), xi)) (by rintro ⟨a, b, c⟩; simp only at a b c; omega) (.inl hin)
              have HJV := Lib.hid hjv
              clear hjv hin
              go_wp2_with (go_at_call 28; (refine (Stop_no w1.heap.size P p xi _ HPA.out hw7s hnin.out).mono ?_); rintro en w8 ⟨rfl, hA, hB, hK⟩; have HA8 := Lib.hid hA; have HB8 := Lib.hid (HB7.out.trans hB); have HK8 := Lib.hid hK; clear hA hB hK)
              go_meet
              exact ⟨p, HLL.out, HLF.out, by rw [spansOf_snoc]; exact HJV.out, HFI.out.more, HA8.out, own58 HOW.out HK8.out, HB8.out⟩
        case rest =>
          obtain ⟨p2, hJ4⟩ := hcut
          have HJ4 := Lib.hid hJ4
          have HCX := Lib.hid (HC.out.on hJ4.2.2.2.2.2.2)
          clear hJ4 HV HFI HPA HOW HB7 d0' d1' HD hw7s
          have c0 : World.cell? _ ⟨w.heap.size, 0, none⟩ = some (.int .i64 m) := HCX.out.cell 0
          have c1 : World.cell? _ ⟨w.heap.size, 1, none⟩ = some (.int .i64 nn) := HCX.out.cell 1
          have c2 : World.cell? _ ⟨w.heap.size, 2, none⟩ = some (.int .i64 h) := HCX.out.cell 2
          have c3 : World.cell? _ ⟨w.heap.size, 3, none⟩ = some (.int .i64 wt) := HCX.out.cell 3
          have hfr : fairs h wt m nn (L ++ [(y, xi)]) = !p2.bad := by rw [HJ4.out.2.2.1.bad, spansOf_fairs h3.1, Bool.not_not]
          obtain ⟨r, hr⟩ : ∃ r, (!p2.bad) = r := ⟨_, rfl⟩
          rw [hr] at hfr
          have HR := Lib.hid hr
          have HFR := Lib.hid hfr
          clear hr hfr
          have e0 := onto_cell c0
          have e1 := onto_cell c1
          have e2 := onto_cell c2
          have e3 := onto_cell c3
          go_upto_region 21 with fail
          refine wp_region_onto (by kernel_rfl) (by kernel_rfl) ?_
          repeat (go_big_quiet_step (first | (go_at_call 24; exact onto_calls (Fair_b w1.heap.size P p2 r _ (HJ4.out.2.2.2.2.1.on (onto_below _ _)) HR.out)) | (go_at_call 29; exact onto_calls (refFair_any m nn h wt (k + 1) cap' _ (L ++ [(y, xi)]) r _ h1.2 h2.2 h3 (by omega) HLL.out HLF.out (HJ4.out.2.2.2.2.2.1.at.on (onto_below _ _)) HFR.out))))
          refine wpQuiet_nil ?_
          intro _ hw'
          obtain ⟨z, hw''⟩ := hw'
          subst hw''
          go_wp2_with fail
          go_roundg (len - (k + 1))
          case measure => omega
          case rel => exact ⟨k + 1, _, p2, by go_num, by omega, by omega, HJ4.out.on (onto_below _ z)⟩
    · have hcase : (¬ k < len) ∨ (k < len ∧ ¬ k < 60) := by omega
      rcases hcase with hc | ⟨hc, hc2⟩
      all_goals
        go_wp2_with (go_at_call 27; (refine (Ask_no w1.heap.size P p 99 _ HJ.out.2.2.2.2.1 HJ.out.2.2.2.2.2.2.size (.inr (by rw [HJ.out.2.2.1.ns]; omega))).mono ?_); rintro en w5 ⟨rfl, _, hB, _⟩; have HB5 := Lib.hid (HJ.out.2.2.2.2.2.2.trans hB); clear hB)
        go_ret
        exact ⟨rfl, HBw.out.trans (HB5.out.mono hCw)⟩
end Go.Proofs.Ytlphlmpfjpombaa
