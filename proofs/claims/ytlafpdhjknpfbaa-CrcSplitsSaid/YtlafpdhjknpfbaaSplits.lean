/-
  The law CrcSplits returns true: the checksum of a text does not depend on how the text is cut.
  Conditions: none: whatever the arguments that the types allow, the call returns true and leaves its arguments as they were.
-/
import Derived.Test.YtlafpdhjknpfbaaCrcL
import Derived.Test.YtlafpdhjknpfbaaRows
import Derived.ProofKit
import Derived.OpenShut
import Derived.ShutString
import Derived.ChangeOld
import Derived.Below
namespace Go.Proofs.Ytlafpdhjknpfbaa
open Go.RowKit Go.Instr Go.ChangeShapes Go.WideShapes Go.ChangeAt
open Go.ChangeMaps (open_string shut_string)

set_option maxHeartbeats 400000 in
theorem splits_cut (s t : ByteArray) (a1 : Option Addr) (n cap : Nat) (z : Nat → Nat) (w : World) (h0 : s.size ≤ maxLen) (hn : n ≤ maxLen)
    (hrow : ∀ k, k < n → ∃ b off, a1 = some ⟨b, off, none⟩ ∧ w.cell? ⟨b, off + k, none⟩ = some (.int .u8 (z k : Nat)) ∧ z k < 256)
    (ht : t.size ≤ 100) (hcut : (s.size ≤ 100 ∧ t = s) ∨ (100 < s.size ∧ t = s.extract 0 100)) :
    Calls Try.prog 9 #[.string s, .slice a1 n cap] w fun e w' => e = .returned (.bool true) ∧ Below w.heap.size w w' := by
  unfold maxLen at h0 hn
  obtain ⟨i0, hi, hz0, hz1, hz2⟩ := info_parts Try.info9
  have HI := Lib.hid hi
  have HZ0 := Lib.hid hz0
  have HZ1 := Lib.hid hz1
  have HZ2 := Lib.hid hz2
  have HR := Lib.hid hrow
  clear hi hz0 hz1 hz2 hrow
  rcases hcut with ⟨hc, rfl⟩ | ⟨hc, hct⟩
  all_goals
    try (have hct2 := hct.symm; clear hct)
    go_enter Try.func9, Try.ntmps9
    go_wp2_with (first | (go_at_call 22; refine (speaks2 _).mono ?_; rintro e w1 ⟨rfl, hB1⟩))
    try clear hct2
    have HB1 := Lib.hid hB1
    clear hB1
    go_loopw [5, 6, 7] (fun l r i wr => ∃ (k : Nat) (ss : List ByteArray) (rs : ByteArray), k ≤ 12 ∧ k ≤ n ∧ i = .int .i64 k ∧ r = .string rs ∧ ss.length = k ∧ wr.ownsRow w.heap.size 9 1 l k (ss.map Value.string) ∧ flat ss ++ rs.data.toList = t.data.toList ∧ Below w.heap.size w wr) (fun _ _ i _ => (n - (intOf i).toNat))
    case atStart => exact ⟨0, [], t, by omega, by omega, rfl, rfl, rfl, World.ownsRow_nil _ _ _ _, by simp [flat], HB1.out⟩
    case round =>
      obtain ⟨k, ss, rs, hk12, hkn, rfl, rfl, hss, hown, hfl, hB⟩ := hrel
      have hrs : rs.size ≤ 100 := by
        have := congrArg List.length hfl
        rw [List.length_append] at this
        have e1 : rs.data.toList.length = rs.size := rfl
        have e2 : t.data.toList.length = t.size := rfl
        omega
      have HOWN := Lib.hid hown
      have HFL := Lib.hid hfl
      have HB := Lib.hid hB
      have HSS := Lib.hid hss
      clear hown hfl hB hss
      by_cases hlt : k < n ∧ k < 12
      · obtain ⟨hlt1, hlt2⟩ := hlt
        obtain ⟨b, off, rfl, hcell0, hzk⟩ := HR.out k hlt1
        have hcell := (HB.out.cell (p := ⟨b, off + k, none⟩) (World.block_lt_of_cell? _ _ hcell0)).trans hcell0
        clear hcell0
        obtain ⟨m, hm, hmr⟩ : ∃ m : Nat, ((z k : Nat) : Int) % ((rs.size : Int) + 1) = (m : Int) ∧ m ≤ rs.size := ⟨z k % (rs.size + 1), by rw [Int.natCast_emod]; rfl, by have := Nat.mod_lt (z k) (show 0 < rs.size + 1 by omega); omega⟩
        go_wp2
        rw [hm]
        clear hm
        go_region_law (refine step_append_own rfl (.tmp 36) (.tmp 40) 52 rfl w.heap.size 9 i0 (.string ByteArray.empty) 1 16 Try.underlying52 HI.out HZ0.out HZ1.out HZ2.out rfl (by decide) u5 k _ rfl (HOWN.out.drew.alloc _) ⟨wr.heap.size, 0, none⟩ 1 1 [.string (rs.extract 0 m)] rfl rfl (cell_one_new _ _ _) (by simp [Value.oneCell']) (by unfold maxLen; omega) (by omega) (by have := HB.out.size; simp; omega) ?_; intro v1 w2 hown2 hgrow2 hnil2)
        have hB2 : Below w.heap.size w w2 := ((HB.out.drew).alloc (by have := HB.out.size; simpa using this) _).grown hgrow2 (by have := HB.out.size; simp; omega) (fun j hj => (HOWN.out.lt j hj).1)
        have HB2 := Lib.hid hB2
        have HOWN2 := Lib.hid hown2
        clear hB2 hown2 hgrow2 hnil2
        go_wp2
        go_roundw
        case rel => exact ⟨k + 1, ss ++ [rs.extract 0 m], rs.extract m rs.size, by omega, by omega, by go_num, rfl, by rw [List.length_append, HSS.out]; rfl, by rw [List.map_append]; exact HOWN2.out, by rw [flat_add, List.append_assoc, halves rs m hmr]; exact HFL.out, HB2.out⟩
        case measure => simp [intOf]; omega
      · have hlen : ss.length ≤ 12 := by rw [HSS.out]; exact hk12
        have hgu : n ≤ k ∨ (k < n ∧ 12 ≤ k) := by omega
        clear hlt
        have HFT : Hid (flat (ss ++ [rs]) = t.data.toList) := by rw [flat_add]; exact HFL.out
        have HFT2 : Hid (flat (⟨#[]⟩ :: (ss ++ [rs])) = t.data.toList) := HFT.out
        have HSZ := Lib.hid HB.out.size
        rcases hgu with hgu | ⟨hgu1, hgu2⟩
        all_goals
          go_wp2_with (first | (at_builtin; refine wpList_append_own1 _ rfl (.tmp 45) (.tmp 47) 52 rfl w.heap.size 9 i0 (.string ByteArray.empty) 1 16 Try.underlying52 HI.out HZ0.out HZ1.out HZ2.out rfl (by decide) u5 k _ rfl (HOWN.out.alloc _) ⟨wr.heap.size, 0, none⟩ 1 1 [.string rs] rfl rfl (cell_one_new _ _ _) (by simp [Value.oneCell']) (by unfold maxLen; omega) (by omega) (by have := HSZ.out; simp; omega) (by decide) ?_; intro g3 c3 w3 hg3 hown3 hgrow3; have HG3 := Lib.hid hg3; have HOWN3 := Lib.hid hown3; have HGR3 := Lib.hid hgrow3; clear hg3 hown3 hgrow3))
          have HB3 : Hid (Below w.heap.size w w3) := (HB.out.alloc (by have := HB.out.size; omega) _).grown HGR3.out (by have := HB.out.size; simp; omega) (fun j hj => (HOWN.out.lt j hj).1)
          have HSZ3 := Lib.hid HB3.out.size
          refine (sum_own (ss := ss ++ [rs]) (t := t) (by rw [List.map_append]; exact HOWN3.out) HFT.out ht).mono ?_
          rintro e w' ⟨rfl, rfl⟩
          have HO4 : Hid ((w3.alloc (.cells #[.string t] 9)).alloc (.cells #[.string ⟨#[]⟩] 9) |>.ownsRow w.heap.size 9 1 (.slice (some ⟨w3.heap.size + 1, 0, none⟩) 1 1) 1 [.string ⟨#[]⟩]) :=
            ⟨rfl, .inr ⟨w3.heap.size + 1, 1, #[.string ⟨#[]⟩], rfl, by have := HSZ3.out; omega, by rw [show w3.heap.size + 1 = (w3.alloc (.cells #[.string t] 9)).heap.size by simp]; exact heap_alloc_new _ _, by decide, by decide, rfl, rfl⟩⟩
          have HC4 : Hid (∀ j u, ((ss ++ [rs]).map Value.string)[j]? = some u → ((w3.alloc (.cells #[.string t] 9)).alloc (.cells #[.string ⟨#[]⟩] 9)).cell? ((⟨g3, 0, none⟩ : Addr).add j) = some u) :=
            ((((by rw [List.map_append]; exact HOWN3.out : w3.ownsRow w.heap.size 9 1 (.slice (some ⟨g3, 0, none⟩) (k + 1) c3) (k + 1) ((ss ++ [rs]).map Value.string))).alloc _).alloc _).cells rfl
          go_wp2_with (first | (go_at_call 23; (with_reducible refine (sum_new _ t _ ht (by simp)).mono ?_); rintro e w' ⟨rfl, rfl⟩) | (at_builtin; refine wpList_append_own2 _ rfl (.tmp 56) (.tmp 57) 52 rfl w.heap.size 9 i0 (.string ByteArray.empty) 1 16 Try.underlying52 HI.out HZ0.out HZ1.out HZ2.out rfl (by decide) _ _ _ rfl HO4.out ⟨g3, 0, none⟩ (k + 1) c3 ((ss ++ [rs]).map Value.string) rfl (by simp [HSS.out]) HC4.out (one_cells _) (by unfold maxLen; omega) (by omega) (by have := HSZ3.out; simp; omega) (by omega) ?_; intro g5 c5 w5 hg5 hown5 hgrow5; have HG5 := Lib.hid hg5; have HOWN5 := Lib.hid hown5; have HGR5 := Lib.hid hgrow5; clear hg5 hown5 hgrow5))
          have HB5 : Hid (Below w.heap.size w w5) := ((HB3.out.alloc (by have := HSZ3.out; omega) _).alloc (by have := HSZ3.out; simp; omega) _).grown HGR5.out (by have := HSZ3.out; simp; omega) (fun j hj => (HO4.out.lt j hj).1)
          refine (sum_own (ss := ⟨#[]⟩ :: (ss ++ [rs])) (t := t) (by exact HOWN5.out) HFT2.out ht).mono ?_
          rintro e w' ⟨rfl, rfl⟩
          go_wp2_with (go_at_call 23; (with_reducible refine (sum_new _ t _ ht (by simp)).mono ?_); rintro e w' ⟨rfl, rfl⟩)
          go_ret
          exact ⟨rfl, HB5.out.alloc (by have := HB5.out.size; omega) _⟩

/-- What the walk is told of a slice of bytes that came in: nil, or it leads to a row of 'cap' cells, the numbers 'zs'. -/
def IsBytes (w : World) (a : Option Addr) (len cap : Nat) (zs : List Int) : Prop :=
  (a = none ∧ len = 0 ∧ cap = 0 ∧ zs = []) ∨
  ∃ x, a = some x ∧ len ≤ cap ∧ cap ≤ maxLen ∧ zs.length = cap ∧ (∀ i, i < zs.length → w.cell? (x.add i) = some (.int .u8 (zs.getD i 0))) ∧ ∀ n ∈ zs, (Lit.int .u8 n).wf = true
theorem splits_walk (s : ByteArray) (a1 : Option Addr) (len cap : Nat) (zs : List Int) (w : World) (h0 : s.size ≤ maxLen) (h1 : IsBytes w a1 len cap zs) :
    Calls Try.prog 9 #[.string s, .slice a1 len cap] w fun e w' => e = .returned (.bool true) ∧ Below w.heap.size w w' := by
  have hlen : len ≤ maxLen := by
    rcases h1 with ⟨_, rfl, _, _⟩ | ⟨x, _, hl, hm, _⟩
    · exact Nat.zero_le _
    · omega
  have hrow : ∀ k, k < len → ∃ b off, a1 = some ⟨b, off, none⟩ ∧ w.cell? ⟨b, off + k, none⟩ = some (.int .u8 (((zs.getD k 0).toNat : Nat) : Int)) ∧ (zs.getD k 0).toNat < 256 := by
    intro k hk
    rcases h1 with ⟨_, rfl, _, _⟩ | ⟨⟨b, off, spot⟩, rfl, hl, hm, hz, hcell, hwz⟩
    · omega
    · have hc := hcell k (by omega)
      have hmem : zs.getD k 0 ∈ zs := by
        rw [List.getD_eq_getElem?_getD, List.getElem?_eq_getElem (by omega)]
        exact List.getElem_mem _
      have hb := bounds_u8 (hwz _ hmem)
      have e : ((((zs.getD k 0).toNat : Nat) : Int)) = zs.getD k 0 := by omega
      have h00 := hcell 0 (by omega)
      have hspot : spot = none := by simpa [Addr.add] using World.cell?_spot h00
      subst hspot
      have e2 : (⟨b, off, none⟩ : Addr).add k = ⟨b, off + k, none⟩ := by unfold Addr.add; split <;> simp_all
      rw [e2] at hc
      exact ⟨b, off, rfl, by rw [e]; exact hc, by omega⟩
  by_cases h : s.size ≤ 100
  · exact splits_cut s s a1 len cap _ w h0 hlen hrow h (.inl ⟨h, rfl⟩)
  · exact splits_cut s (s.extract 0 100) a1 len cap _ w h0 hlen hrow (by simp; omega) (.inr ⟨by omega, rfl⟩)
theorem crcSplits_own : ownKnob Try.prog.godebug = none := by kernel_rfl
theorem crcSplits_laidOut : laidOutB Try.prog = true := by kernel_rfl
set_option maxRecDepth 100000 in
theorem crcSplits_lifted (os : Os) (started : os.Started) (H : Type) (enc : TypeId × Value → H) :
    ReturnsInHanded {} Try.checked os 9 .any (Rows.crcSplitsSpec.pre6 enc Try.prog Try.f9 Rows.crcSplitsRow.domain false) (Rows.crcSplitsSpec.post enc Try.prog Try.f9 false true false false) := by
  refine returnsInHanded_of_change (C := Try.checked) crcSplits_own started (by kernel_rfl) Try.func9
    (ChangeSpec.witness6 (enc := enc) (C := Try.checked) false ⟨#[], #[.string ByteArray.empty, .slice none 0 0], []⟩ 8 (by kernel_rfl) (by kernel_rfl) (by kernel_rfl) (by kernel_rfl)) ?_
  intro W base args ds gs before hval0 hW hcnd _
  have hval : ∀ (j : Nat) t v, Try.f9.params[j]? = some t → args[j]? = some v → Value.okWide Try.prog W .any base t v := hval0
  have hW' := hW
  obtain ⟨p, q, hA0, hV, rfl, hfz, hnd⟩ := hW
  have hA : DataW.TrodAll enc Try.prog W 0 (fun _ => true) true Try.f9.params.toList args.toList ds p := hA0
  rw [Try.params9] at hA hval
  obtain ⟨v0, vs0, d0, ds0, p0, q0, hargs, rfl, rfl, h0, r0⟩ := trodAll_cons hA
  obtain ⟨v1, vs1, d1, ds1, p1, q1, rfl, rfl, rfl, h1, r1⟩ := trodAll_cons r0
  obtain ⟨rfl, rfl, rfl⟩ := trodAll_nil r1
  obtain rfl : args = #[v0, v1] := by cases args; simp_all
  obtain ⟨rfl, rfl⟩ := trodVars_none hV
  obtain ⟨a0, rfl, rfl, rfl, w0⟩ := open_string Try.underlying9 (hval 0 9 v0 rfl rfl) h0
  obtain ⟨a1, len1, cap1, rfl⟩ := okWide_slice Try.underlying61 (hval 1 61 v1 rfl rfl)
  have k1 := h1
  have lt1 : ∀ x ∈ p1, x.block < W.heap.size := by obtain ⟨m, hm⟩ := k1; exact DataW.trod_lt m _ _ _ hm
  obtain ⟨z1, w1⟩ : ∃ zs, IsBytes W a1 len1 cap1 zs := by
    obtain ⟨fuel, hf⟩ := h1
    rcases open_ints Try.underlying61 Try.underlying5 (by kernel_rfl) hf with ⟨hcs, _⟩ | ⟨x, l, c, zs, hcs, _, hl, hm, hz, _, hcell, hwz⟩
    · simp [Value.cells] at hcs
      obtain ⟨rfl, rfl, rfl⟩ := hcs
      exact ⟨[], .inl ⟨rfl, rfl, rfl, rfl⟩⟩
    · simp [Value.cells] at hcs
      obtain ⟨rfl, rfl, rfl⟩ := hcs
      exact ⟨zs, .inr ⟨_, rfl, hl, hm, by simpa using hz, hcell, hwz⟩⟩
  clear hA0 hval0
  refine (splits_walk a0 a1 len1 cap1 z1 W w0 w1).mono fun e W' ⟨he, bel⟩ => ?_
  subst he
  exact ⟨_, rfl, _, _, _, [], _, [], hW', trodAll_mk1 (shut_bool Try.underlying4 _), (trodAll_cons_mk (shut_string Try.underlying9 w0) (trodAll_cons_mk (Below.trod crcSplits_laidOut (by kernel_rfl) (of_decide_eq_true (by kernel_rfl)) k1 bel lt1) trodAll_mk0)), rfl, bel.frame _, fun h => by cases h⟩

theorem crcSplits_over : Rows.crcSplitsRow.holds Try.pinned (OpenSpec.ofChange Rows.crcSplitsSpec) :=
  OpenClaim.holds_of_wide 9 Try.f9 rfl rfl rfl rfl rfl rfl rfl ⟨rfl, rfl, rfl, rfl, rfl⟩ rfl rfl rfl rfl rfl (by kernel_rfl) Try.func9 (by kernel_rfl)
    (of_decide_eq_true (by kernel_rfl)) (by unfold Func.isWrapper; first | (rw [if_pos (by decide +kernel)]; kernel_rfl) | (rw [if_neg (by decide +kernel)]; exact ⟨rfl, rfl⟩))
    (fun os started H enc _ => crcSplits_lifted os started H enc)

/-- The statement. -/
theorem crcSplits_holds : Rows.CrcSplitsSaid := crcSplits_over
#print axioms crcSplits_holds
end Go.Proofs.Ytlafpdhjknpfbaa
