/-
  The document's reading of a frame: numbers, what must be, flags, commands. The document's reading of a frame: flags, commands. The document's reading of a command.
-/
import Derived.Test.YtodajejjhfpdmaaDoorFrmR
import Derived.Test.YtodajejjhfpdmaaDoorOctG
namespace Go.Proofs.YtodajejjhfpdmaaDoor
open Go.RowKit Go.Instr

/-- The document's state of reading. -/
structure Zs where
  s : ByteArray
  at_ : Nat
  err : Int
def Zs.ok (z : Zs) : Prop := z.at_ ≤ z.s.size ∧ z.s.size ≤ 1000000
abbrev zC (z : Zs) : Array Value := #[.string z.s, .int .i64 z.at_, .int .i64 z.err]
def rNum (z : Zs) (k : Nat) : Zs × Nat :=
  if z.err = 0 then if z.s.size < z.at_ + k then (⟨z.s, z.at_, 2⟩, 0) else (⟨z.s, z.at_ + k, z.err⟩, getN (z.s.extract z.at_ (z.at_ + k)).data.toList) else (z, 0)
def rMust (z : Zs) (b : Bool) : Zs := if z.err = 0 ∧ b = false then ⟨z.s, z.at_, 4⟩ else z
def rBit (z : Zs) : Zs × Bool := (rMust (rNum z 1).1 (decide ((rNum z 1).2 ≤ 1)), (rNum z 1).2 == 1)
def rCmd (z : Zs) : Zs × CmdV :=
  let a := rNum z 1
  let b := rNum a.1 1
  let c := rNum b.1 1
  let d := rNum c.1 4
  let e := rNum d.1 4
  (e.1, ⟨a.2, b.2, c.2, d.2, e.2⟩)
def NumZ (p : Zs × Nat) (w : World) (e : Ending) (w' : World) : Prop := e = .returned (.tuple #[.agg (zC p.1), .int .u32 p.2]) ∧ Below w.heap.size w w'
theorem getN4 (t : ByteArray) (k : Nat) (hk : k ≤ 4) (ht : t.size ≤ k) : getN t.data.toList < 4294967296 := by
  have h := getN_lt t.data.toList
  have hl : t.data.toList.length = t.size := rfl
  have h2 : 256 ^ t.data.toList.length ≤ 256 ^ 4 := Nat.pow_le_pow_right (by decide) (by omega)
  have h3 : (256 : Nat) ^ 4 = 4294967296 := by decide
  omega
set_option maxHeartbeats 1000000 in
theorem rnumZ_any (z : Zs) (k : Nat) (ki : Int) (hki : ki = k) (hk : k = 1 ∨ k = 4) (w : World) (hz : z.ok) :
    Calls Tryd.prog 35 #[.agg (zC z), .int .i64 ki] w (NumZ (rNum z k) w) := by
  subst hki
  obtain ⟨hz1, hz2⟩ := hz
  by_cases he : z.err = 0
  · by_cases hl : z.s.size < z.at_ + k
    · rw [show rNum z k = (⟨z.s, z.at_, 2⟩, 0) by unfold rNum; rw [if_pos he, if_pos hl]]
      obtain ⟨zs, za, ze⟩ := z
      simp only at he hl hz1 hz2
      subst he
      have hl' : (zs.size : Int) - za < k := by omega
      have hB : Below w.heap.size w ((w.alloc (.cells #[.string zs, .int .i64 za, .int .i64 0] 107)).alloc (.cells #[.string ⟨#[]⟩, .int .i64 0, .int .i64 0] 107)) := by go_grown
      clear hB
      go_enter Tryd.func35, Tryd.ntmps35
      go_wp2
      exact bodyPost_ret (v := .tuple #[.agg (zC ⟨zs, za, 2⟩), .int .u32 0]) (by simp [results, Tryd.results35, go_sem]) rfl ⟨rfl, by go_grown⟩
    · have hex : z.at_ + k ≤ z.s.size := by omega
      have hes : (z.s.extract z.at_ (z.at_ + k)).size = k := by rw [ByteArray.size_extract]; omega
      have H1 := Lib.hid (fun w => get_any (z.s.extract z.at_ (z.at_ + k)) w (by rw [hes]; omega))
      have hlt := getN4 (z.s.extract z.at_ (z.at_ + k)) k (by omega) (by omega)
      rw [show rNum z k = (⟨z.s, z.at_ + k, z.err⟩, getN (z.s.extract z.at_ (z.at_ + k)).data.toList) by unfold rNum; rw [if_pos he, if_neg hl]]
      obtain ⟨zs, za, ze⟩ := z
      simp only at he hl hz1 hz2 hex hes H1 hlt ⊢
      subst he
      generalize getN (zs.extract za (za + k)).data.toList = n at H1 hlt ⊢
      have hl' : ¬ (zs.size : Int) - za < k := by omega
      have hw : IntKind.u32.wrap (n : Int) = (n : Int) := IntWalk.u32_in _ (by omega)
      have ha : ((za : Int) + k).toNat = za + k := by omega
      clear hes
      go_enter Tryd.func35, Tryd.ntmps35
      go_wp2_with fail
      refine (H1.out _).mono ?_
      rintro e w2 ⟨rfl, rfl⟩
      go_wp2_with fail
      exact bodyPost_ret (v := .tuple #[.agg (zC ⟨zs, za + k, 0⟩), .int .u32 n]) (by simp [results, Tryd.results35, go_sem]) rfl ⟨rfl, by go_grown⟩
  · rw [show rNum z k = (z, 0) by unfold rNum; rw [if_neg he]]
    obtain ⟨zs, za, ze⟩ := z
    simp only at he hz1 hz2 ⊢
    have he' : (ze != 0) = true := by simpa using he
    go_enter Tryd.func35, Tryd.ntmps35
    go_wp2
    exact bodyPost_ret (v := .tuple #[.agg (zC ⟨zs, za, ze⟩), .int .u32 0]) (by simp [results, Tryd.results35, go_sem]) rfl ⟨rfl, by go_grown⟩
set_option maxHeartbeats 1000000 in
theorem rmustZ_any (z : Zs) (b : Bool) (w : World) :
    Calls Tryd.prog 36 #[.agg (zC z), .bool b] w fun e w' => e = .returned (.agg (zC (rMust z b))) ∧ Below w.heap.size w w' := by
  obtain ⟨zs, za, ze⟩ := z
  by_cases he : ze = 0
  · subst he
    cases b
    · go_enter Tryd.func36, Tryd.ntmps36
      go_wp2
      exact bodyPost_ret (v := .agg (zC ⟨zs, za, 4⟩)) (by simp [results, Tryd.results36, go_sem]) rfl ⟨rfl, by go_grown⟩
    · go_enter Tryd.func36, Tryd.ntmps36
      go_wp2
      exact bodyPost_ret (v := .agg (zC ⟨zs, za, 0⟩)) (by simp [results, Tryd.results36, go_sem]) rfl ⟨rfl, by go_grown⟩
  · have he' : (ze == 0) = false := by simpa using he
    have hm : rMust ⟨zs, za, ze⟩ b = ⟨zs, za, ze⟩ := by unfold rMust; rw [if_neg (fun h => he h.1)]
    rw [hm]
    go_enter Tryd.func36, Tryd.ntmps36
    go_wp2
    exact bodyPost_ret (v := .agg (zC ⟨zs, za, ze⟩)) (by simp [results, Tryd.results36, go_sem]) rfl ⟨rfl, by go_grown⟩
theorem rNum_ok {z : Zs} {k : Nat} (h : z.ok) : (rNum z k).1.ok := by
  obtain ⟨h1, h2⟩ := h
  unfold rNum
  split
  · split
    · exact ⟨h1, h2⟩
    · exact ⟨by simp only; omega, h2⟩
  · exact ⟨h1, h2⟩
theorem rMust_ok {z : Zs} {b : Bool} (h : z.ok) : (rMust z b).ok := by
  unfold rMust
  split
  · exact h
  · exact h
theorem rNum_lt (z : Zs) (k : Nat) (_hk : k = 1 ∨ k = 4) : (rNum z k).2 < 256 ^ k := by
  have h1 : 1 ≤ 256 ^ k := Nat.one_le_iff_ne_zero.2 (by simp)
  unfold rNum
  split
  · split
    · simp only; omega
    · have h := getN_lt (z.s.extract z.at_ (z.at_ + k)).data.toList
      have hl : (z.s.extract z.at_ (z.at_ + k)).data.toList.length = (z.s.extract z.at_ (z.at_ + k)).size := rfl
      have hs : (z.s.extract z.at_ (z.at_ + k)).size ≤ k := by rw [ByteArray.size_extract]; omega
      exact Nat.lt_of_lt_of_le h (Nat.pow_le_pow_right (by decide) (by omega))
  · simp only; omega
end Go.Proofs.YtodajejjhfpdmaaDoor


namespace Go.Proofs.YtodajejjhfpdmaaDoor
open Go.RowKit Go.Instr

abbrev z0C : Array Value := #[.string ⟨#[]⟩, .int .i64 0, .int .i64 0]
def BitZ (p : Zs × Bool) (w : World) (e : Ending) (w' : World) : Prop := e = .returned (.tuple #[.agg (zC p.1), .bool p.2]) ∧ Below w.heap.size w w'
set_option maxHeartbeats 1000000 in
theorem rbitZ_any (z : Zs) (w : World) (hz : z.ok) :
    Calls Tryd.prog 66 #[.agg (zC z)] w (BitZ (rBit z) w) := by
  have R0 := Lib.hid (show Blk ((w.alloc (.cells (zC z) 107)).alloc (.cells z0C 107)) (w.heap.size + 1) z0C 107 from Blk.new (by simp))
  have B0 := Lib.hid (show Below w.heap.size w ((w.alloc (.cells (zC z) 107)).alloc (.cells z0C 107)) by go_grown)
  have H1 := Lib.hid (fun w => rnumZ_any z 1 1 rfl (.inl rfl) w hz)
  unfold rBit
  generalize rNum z 1 = p at H1 ⊢
  obtain ⟨⟨zs, za, ze⟩, n⟩ := p
  simp only at H1 ⊢
  clear hz
  go_enter Tryd.func66, Tryd.ntmps66
  go_wp2_with fail
  refine (H1.out _).mono ?_
  rintro e w2 ⟨rfl, hB2⟩
  simp only
  have R2 := Lib.hid (R0.out.on hB2)
  have B2 := Lib.hid (m_below_on B0.out hB2)
  have e1 : decide ((n : Int) ≤ 1) = decide (n ≤ 1) := le_cast n 1
  have e2 : ((n : Int) == 1) = (n == 1) := by rw [Bool.eq_iff_iff]; simp; omega
  have H2 := Lib.hid (fun w => rmustZ_any ⟨zs, za, ze⟩ (decide ((n : Int) ≤ 1)) w)
  have E12 := Lib.hid (And.intro e1 e2)
  have B3 := Lib.hid (B2.out.alloc B2.out.size (.cells (zC ⟨zs, za, ze⟩) 107))
  have R3 := Lib.hid (R2.out.alloc (.cells (zC ⟨zs, za, ze⟩) 107))
  clear hB2 R0 B0 H1 e1 e2
  go_wp2_with fail
  refine (H2.out _).mono ?_
  rintro e w4 ⟨rfl, hB4⟩
  have R4 := R3.out.on hB4
  have B4 := Lib.hid (m_below_on B3.out hB4)
  have c0 := R4.cell 0
  have c1 := R4.cell 1
  have c2 := R4.cell 2
  have f0 := R4.frozen 0
  have f1 := R4.frozen 1
  have f2 := R4.frozen 2
  simp at c0 c1 c2
  have HR4 := Lib.hid R4
  have hwb : w.heap.size ≤ w.heap.size + 1 := Nat.le_succ _
  obtain ⟨q, hq⟩ : ∃ q, q = rMust ⟨zs, za, ze⟩ (decide ((n : Int) ≤ 1)) := ⟨_, rfl⟩
  rw [← hq]
  have HQ := Lib.hid (show rMust ⟨zs, za, ze⟩ (decide (n ≤ 1)) = q by rw [hq, E12.out.1])
  clear hq
  obtain ⟨qs, qa, qe⟩ := q
  clear hB4 R4 H2 R3 B3 R2 B2
  go_wp2_with fail
  refine bodyPost_ret (results_cell_tmp_row (p := 2) (u := 3) Tryd.results66 _ _ (w.heap.size + 1) 107 _ (0, 0) _ rfl (((HR4.out.set 0 _ _ rfl).set 1 _ _ rfl).set 2 _ _ rfl) Tryd.underlying107 rfl (by kernel_rfl)) rfl ?_
  rw [HQ.out, ← E12.out.2]
  refine ⟨rfl, ?_⟩
  exact ((B4.out.setCell hwb _).setCell hwb _).setCell hwb _
end Go.Proofs.YtodajejjhfpdmaaDoor


namespace Go.Proofs.YtodajejjhfpdmaaDoor
open Go.RowKit Go.Instr

theorem rnum1_any (z : Zs) (w : World) (hz : z.ok) : Calls Tryd.prog 35 #[.agg #[.string z.s, .int .i64 z.at_, .int .i64 z.err], .int .i64 1] w (NumZ (rNum z 1) w) := rnumZ_any z 1 1 rfl (.inl rfl) w hz
theorem rnum4_any (z : Zs) (w : World) (hz : z.ok) : Calls Tryd.prog 35 #[.agg #[.string z.s, .int .i64 z.at_, .int .i64 z.err], .int .i64 4] w (NumZ (rNum z 4) w) := rnumZ_any z 4 4 rfl (.inr rfl) w hz
def CmdZ (p : Zs × CmdV) (w : World) (e : Ending) (w' : World) : Prop := e = .returned (.tuple #[.agg (zC p.1), .agg #[.int .u8 p.2.k, .int .u8 p.2.n, .int .u8 p.2.l, .int .u32 p.2.e, .int .u32 p.2.r]]) ∧ Below w.heap.size w w'
abbrev c0C : Array Value := #[.int .u8 0, .int .u8 0, .int .u8 0, .int .u32 0, .int .u32 0]
theorem results_cell2 {P : Program} {fn : Func} {p q : Tmp} {ty tz : TypeId} (h : fn.results = #[.cell p ty, .cell q tz]) (tmps : Array Value) (w : World) (g k : Nat) (t u : TypeId) (cs ds : Array Value) (fr gr : Nat × Nat) (d e : TypeDesc)
    (hp : tmps.getD p undef = .pointer (some ⟨g, 0, none⟩)) (hg : w.heap[g]? = some (.cells cs t fr))
    (hu : P.underlying ty = some d) (hd : (match d with | .struct _ | .array _ _ => true | _ => false) = true) (hi : (P.info? ty).map (·.size) = some cs.size)
    (hq : tmps.getD q undef = .pointer (some ⟨k, 0, none⟩)) (hk : w.heap[k]? = some (.cells ds u gr))
    (hu2 : P.underlying tz = some e) (hd2 : (match e with | .struct _ | .array _ _ => true | _ => false) = true) (hi2 : (P.info? tz).map (·.size) = some ds.size) :
    (results fn tmps).run P w = .ok (.tuple #[.agg cs, .agg ds]) w := by
  have hp' : tmps[p]?.getD undef = .pointer (some ⟨g, 0, none⟩) := by simpa using hp
  have hq' : tmps[q]?.getD undef = .pointer (some ⟨k, 0, none⟩) := by simpa using hq
  simp [results, h, hp', hq', asAddr, run_loadVar_row w g t ty cs fr d hg hu hd hi, run_loadVar_row w k u tz ds gr e hk hu2 hd2 hi2, Result.andThen]
set_option maxHeartbeats 2000000 in
theorem rcmdZ_any (z : Zs) (w : World) (hz : z.ok) :
    Calls Tryd.prog 67 #[.agg (zC z)] w (CmdZ (rCmd z) w) := by
  have R1 := Lib.hid (show Blk (((w.alloc (.cells (zC z) 107)).alloc (.cells z0C 107)).alloc (.cells c0C 48)) (w.heap.size + 1) z0C 107 from (Blk.new (by simp)).alloc _)
  have S1 := Lib.hid (show Blk (((w.alloc (.cells (zC z) 107)).alloc (.cells z0C 107)).alloc (.cells c0C 48)) (w.heap.size + 2) c0C 48 from Blk.new (by simp))
  have B1 := Lib.hid (show Below w.heap.size w (((w.alloc (.cells (zC z) 107)).alloc (.cells z0C 107)).alloc (.cells c0C 48)) by go_grown)
  have hk0 := rNum_ok (k := 1) hz
  have hk1 := rNum_ok (k := 1) hk0
  have hk2 := rNum_ok (k := 1) hk1
  have hk3 := rNum_ok (k := 4) hk2
  have l0 := rNum_lt z 1 (.inl rfl)
  have l1 := rNum_lt (rNum z 1).1 1 (.inl rfl)
  have l2 := rNum_lt (rNum (rNum z 1).1 1).1 1 (.inl rfl)
  have H0 := Lib.hid (fun w => rnum1_any z w hz)
  have H1 := Lib.hid (fun w => rnum1_any (rNum z 1).1 w hk0)
  have H2 := Lib.hid (fun w => rnum1_any (rNum (rNum z 1).1 1).1 w hk1)
  have H3 := Lib.hid (fun w => rnum4_any (rNum (rNum (rNum z 1).1 1).1 1).1 w hk2)
  have H4 := Lib.hid (fun w => rnum4_any (rNum (rNum (rNum (rNum z 1).1 1).1 1).1 4).1 w hk3)
  have hC : rCmd z = ((rNum (rNum (rNum (rNum (rNum z 1).1 1).1 1).1 4).1 4).1, ⟨(rNum z 1).2, (rNum (rNum z 1).1 1).2, (rNum (rNum (rNum z 1).1 1).1 1).2, (rNum (rNum (rNum (rNum z 1).1 1).1 1).1 4).2, (rNum (rNum (rNum (rNum (rNum z 1).1 1).1 1).1 4).1 4).2⟩) := rfl
  rw [hC]
  clear hC hk0 hk1 hk2 hk3
  generalize rNum (rNum (rNum (rNum (rNum z 1).1 1).1 1).1 4).1 4 = p4 at H4 ⊢
  generalize rNum (rNum (rNum (rNum z 1).1 1).1 1).1 4 = p3 at H3 H4 ⊢
  generalize rNum (rNum (rNum z 1).1 1).1 1 = p2 at H2 H3 l2 ⊢
  generalize rNum (rNum z 1).1 1 = p1 at H1 H2 l1 ⊢
  generalize rNum z 1 = p0 at H0 H1 l0 ⊢
  obtain ⟨⟨s0, a0, e0⟩, n0⟩ := p0
  obtain ⟨⟨s1, a1, e1⟩, n1⟩ := p1
  obtain ⟨⟨s2, a2, e2⟩, n2⟩ := p2
  obtain ⟨⟨s3, a3, e3⟩, n3⟩ := p3
  obtain ⟨⟨s4, a4, e4⟩, n4⟩ := p4
  simp only at H0 H1 H2 H3 H4 l0 l1 l2 ⊢
  have hw0 : IntKind.u8.wrap (n0 : Int) = (n0 : Int) := IntWalk.u8_in _ (by omega)
  have hw1 : IntKind.u8.wrap (n1 : Int) = (n1 : Int) := IntWalk.u8_in _ (by omega)
  have hw2 : IntKind.u8.wrap (n2 : Int) = (n2 : Int) := IntWalk.u8_in _ (by omega)
  clear hz
  go_enter Tryd.func67, Tryd.ntmps67
  go_wp2_with fail
  with_reducible refine (H0.out _).mono ?_
  rintro e v0 ⟨rfl, hB⟩
  have R2 := Lib.hid ((R1.out.on hB).alloc (.cells #[.string s0, .int .i64 a0, .int .i64 e0] 107))
  have S2 := Lib.hid ((S1.out.on hB).alloc (.cells #[.string s0, .int .i64 a0, .int .i64 e0] 107))
  have B2 := Lib.hid ((m_below_on B1.out hB).alloc (m_below_on B1.out hB).size (.cells #[.string s0, .int .i64 a0, .int .i64 e0] 107))
  have hl0 : w.heap.size + 1 < v0.heap.size := (R1.out.on hB).lt
  have hm0 : w.heap.size + 2 < v0.heap.size := (S1.out.on hB).lt
  clear hB R1 S1 B1 H0
  clear hl0 hm0
  go_wp2_with fail
  with_reducible refine (H1.out _).mono ?_
  rintro e v1 ⟨rfl, hB⟩
  have R3 := Lib.hid ((R2.out.on hB).alloc (.cells #[.string s1, .int .i64 a1, .int .i64 e1] 107))
  have S3 := Lib.hid ((S2.out.on hB).alloc (.cells #[.string s1, .int .i64 a1, .int .i64 e1] 107))
  have B3 := Lib.hid ((m_below_on B2.out hB).alloc (m_below_on B2.out hB).size (.cells #[.string s1, .int .i64 a1, .int .i64 e1] 107))
  have hl1 : w.heap.size + 1 < v1.heap.size := (R2.out.on hB).lt
  have hm1 : w.heap.size + 2 < v1.heap.size := (S2.out.on hB).lt
  clear hB R2 S2 B2 H1
  clear hl1 hm1
  go_wp2_with fail
  with_reducible refine (H2.out _).mono ?_
  rintro e v2 ⟨rfl, hB⟩
  have R4 := Lib.hid ((R3.out.on hB).alloc (.cells #[.string s2, .int .i64 a2, .int .i64 e2] 107))
  have S4 := Lib.hid ((S3.out.on hB).alloc (.cells #[.string s2, .int .i64 a2, .int .i64 e2] 107))
  have B4 := Lib.hid ((m_below_on B3.out hB).alloc (m_below_on B3.out hB).size (.cells #[.string s2, .int .i64 a2, .int .i64 e2] 107))
  have hl2 : w.heap.size + 1 < v2.heap.size := (R3.out.on hB).lt
  have hm2 : w.heap.size + 2 < v2.heap.size := (S3.out.on hB).lt
  clear hB R3 S3 B3 H2
  clear hl2 hm2
  go_wp2_with fail
  with_reducible refine (H3.out _).mono ?_
  rintro e v3 ⟨rfl, hB⟩
  have R5 := Lib.hid ((R4.out.on hB).alloc (.cells #[.string s3, .int .i64 a3, .int .i64 e3] 107))
  have S5 := Lib.hid ((S4.out.on hB).alloc (.cells #[.string s3, .int .i64 a3, .int .i64 e3] 107))
  have B5 := Lib.hid ((m_below_on B4.out hB).alloc (m_below_on B4.out hB).size (.cells #[.string s3, .int .i64 a3, .int .i64 e3] 107))
  have hl3 : w.heap.size + 1 < v3.heap.size := (R4.out.on hB).lt
  have hm3 : w.heap.size + 2 < v3.heap.size := (S4.out.on hB).lt
  clear hB R4 S4 B4 H3
  clear hl3 hm3
  go_wp2_with fail
  with_reducible refine (H4.out _).mono ?_
  rintro e v4 ⟨rfl, hB⟩
  have R6 := Lib.hid ((R5.out.on hB).alloc (.cells #[.string s4, .int .i64 a4, .int .i64 e4] 107))
  have S6 := Lib.hid ((S5.out.on hB).alloc (.cells #[.string s4, .int .i64 a4, .int .i64 e4] 107))
  have B6 := Lib.hid ((m_below_on B5.out hB).alloc (m_below_on B5.out hB).size (.cells #[.string s4, .int .i64 a4, .int .i64 e4] 107))
  have hl4 : w.heap.size + 1 < v4.heap.size := (R5.out.on hB).lt
  have hm4 : w.heap.size + 2 < v4.heap.size := (S5.out.on hB).lt
  clear hB R5 S5 B5 H4
  have hne : w.heap.size + 2 ≠ w.heap.size + 1 := by omega
  have RR := Lib.hid (blk_raw R6.out)
  have R7 := Lib.hid (setRow_blk (zC ⟨s4, a4, e4⟩) R6.out)
  have S7 := Lib.hid (S6.out.grown (grown_setRow _ (w.heap.size + 1) (zC ⟨s4, a4, e4⟩)) (fun h => hne (Option.some.inj h)))
  have SS := Lib.hid (blk_raw S7.out)
  have R8 := Lib.hid (R7.out.grown (grown_setRow _ (w.heap.size + 2) #[.int .u8 n0, .int .u8 n1, .int .u8 n2, .int .u32 n3, .int .u32 n4]) (fun h => hne.symm (Option.some.inj h)))
  have S8 := Lib.hid (setRow_blk #[.int .u8 n0, .int .u8 n1, .int .u8 n2, .int .u32 n3, .int .u32 n4] S7.out)
  have B8 := Lib.hid (below_sr (below_sr B6.out (Nat.le_succ _) (zC ⟨s4, a4, e4⟩)) (Nat.le_add_right _ 2) #[.int .u8 n0, .int .u8 n1, .int .u8 n2, .int .u32 n3, .int .u32 n4])
  have ON1 : Hid ((zC ⟨s4, a4, e4⟩).all (fun v => v.oneCell') = true) := Lib.hid (by simp [Value.oneCell'])
  have ON2 : Hid ((#[.int .u8 n0, .int .u8 n1, .int .u8 n2, .int .u32 n3, .int .u32 n4] : Array Value).all (fun v => v.oneCell') = true) := Lib.hid (by simp [Value.oneCell'])
  clear R6 S6 B6 R7 S7 hne
  go_wp2_with (first | (refine wpList_store_row rfl 107 (.tmp 2) (.tmp 39) rfl (w.heap.size + 1) (zC ⟨s4, a4, e4⟩) rfl rfl 107 z0C RR.out (by kernel_rfl) rfl ON1.out ?_) | (refine wpList_store_row rfl 48 (.tmp 3) (.tmp 48) rfl (w.heap.size + 2) #[.int .u8 n0, .int .u8 n1, .int .u8 n2, .int .u32 n3, .int .u32 n4] rfl rfl 48 c0C SS.out (by kernel_rfl) rfl ON2.out ?_))
  exact bodyPost_ret (results_cell2 (p := 2) (q := 3) Tryd.results67 _ _ (w.heap.size + 1) (w.heap.size + 2) 107 48 _ _ (0, 0) (0, 0) _ _ rfl (blk_raw R8.out) Tryd.underlying107 rfl (by kernel_rfl) rfl (blk_raw S8.out) Tryd.underlying48 rfl (by kernel_rfl)) rfl ⟨rfl, B8.out⟩
end Go.Proofs.YtodajejjhfpdmaaDoor

