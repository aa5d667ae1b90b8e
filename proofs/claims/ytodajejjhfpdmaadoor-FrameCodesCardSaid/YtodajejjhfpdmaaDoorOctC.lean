/-
  The walk of octet's Join: the concatenated encodings, or the error of the first part that is not valid.
-/
import Derived.Test.YtodajejjhfpdmaaDoorOctB
namespace Go.Proofs.YtodajejjhfpdmaaDoor
open Go.RowKit Go.Instr

/-- The error of the first part that is not valid, or 0. -/
def joinE : List PartV → Int
  | [] => 0
  | p :: l => if chk p = 0 then joinE l else chk p
def encs (l : List PartV) : List UInt8 := l.flatMap enc
def joinS (l : List PartV) : ByteArray := if joinE l = 0 then ⟨(encs l).toArray⟩ else ByteArray.empty
def PartV.fine (p : PartV) : Prop := (0 ≤ p.k ∧ p.k ≤ 3) ∧ p.s.size ≤ 2000
/-- The slice value leads to the parts. -/
def PartsAt (w : World) (v : Value) (ps : List PartV) : Prop :=
  (v = .slice none 0 0 ∧ ps = []) ∨ ∃ b off cap, v = .slice (some ⟨b, off, none⟩) ps.length cap ∧
    ∀ i (h : i < ps.length), (w.cell? ⟨b, off + i * 4, none⟩ = some (.int .i64 ps[i].k) ∧ w.cell? ⟨b, off + i * 4 + 1, none⟩ = some (.int .u64 ps[i].n) ∧ w.cell? ⟨b, off + i * 4 + 2, none⟩ = some (.int .i64 ps[i].z) ∧ w.cell? ⟨b, off + i * 4 + 3, none⟩ = some (.string ps[i].s))
theorem joinE_snoc {l : List PartV} {p : PartV} (h : joinE l = 0) : joinE (l ++ [p]) = chk p := by
  induction l with
  | nil =>
    simp only [List.nil_append, joinE]
    split
    · next hc => exact hc.symm
    · rfl
  | cons a l ih =>
    simp only [List.cons_append, joinE] at h ⊢
    split
    · next hc => rw [if_pos hc] at h; exact ih h
    · next hc => rw [if_neg hc] at h; exact absurd h hc
theorem encs_snoc (l : List PartV) (p : PartV) : encs (l ++ [p]) = encs l ++ enc p := by simp [encs]
theorem enc_len (p : PartV) (hf : p.fine) (hc : chk p = 0) : (enc p).length ≤ 2001 := by
  obtain ⟨k, n, z, s⟩ := p
  obtain ⟨hk, hs⟩ := hf
  simp only at hk hs
  have el : (UInt8.ofNat s.size :: s.data.toList).length = 1 + s.size := by rw [List.length_cons, Nat.add_comm]; rfl
  have el2 : s.data.toList.length = s.size := rfl
  have hcs : k = 0 ∨ k = 1 ∨ k = 2 ∨ k = 3 := by omega
  rcases hcs with rfl | rfl | rfl | rfl
  · simp [chk] at hc
  · have hz : sizedB z = true := by
      cases h : sizedB z with
      | true => rfl
      | false => simp [chk, h] at hc
    have hz2 : 1 ≤ z ∧ z ≤ 8 := by simpa [sizedB] using hz
    simp only [enc, if_true, beN_len]
    omega
  · have e : enc (PartV.mk 2 n z s) = UInt8.ofNat s.size :: s.data.toList := by simp [enc]
    rw [e, el]
    omega
  · have e : enc (PartV.mk 3 n z s) = s.data.toList := by simp [enc]
    rw [e, el2]
    omega
theorem joinE_bad (l m : List PartV) (h : joinE l ≠ 0) : joinE (l ++ m) = joinE l := by
  induction l with
  | nil => exact absurd rfl h
  | cons a l ih =>
    simp only [List.cons_append, joinE] at h ⊢
    split
    · next hc => rw [if_pos hc] at h; exact ih h
    · rfl
theorem join_bad {ps : List PartV} {k : Nat} {p : PartV} (h : joinE (ps.take k) = 0) (ht : ps.take (k + 1) = ps.take k ++ [p]) (hc : ¬ chk p = 0) : joinE ps = chk p ∧ joinS ps = ⟨#[]⟩ := by
  have e1 : joinE (ps.take (k + 1)) = chk p := by rw [ht, joinE_snoc h]
  have e2 : joinE ps = chk p := by
    have := joinE_bad (ps.take (k + 1)) (ps.drop (k + 1)) (by rw [e1]; exact hc)
    rw [List.take_append_drop] at this
    rw [this, e1]
  refine ⟨e2, ?_⟩
  rw [joinS, if_neg (by rw [e2]; exact hc)]
  rfl
set_option maxRecDepth 20000 in
theorem conv_own {w : World} {base : Nat} {v : Value} {m : Nat} {bs : List UInt8} (h : w.ownsRow base 5 1 v m (bs.map byteV)) : (convert 67 9 v).run Tryd.prog w = .ok (.string ⟨bs.toArray⟩) w := by
  have hl : bs.length = m := by have := h.1; simpa using this
  rcases h.2 with ⟨rfl, h0⟩ | ⟨g, cap, cur, rfl, _, hg, _⟩
  · have : bs = [] := List.eq_nil_of_length_eq_zero (by omega)
    subst this
    exact run_convert_bytes_nil w 67 5 Tryd.underlying67 Tryd.underlying5 0 0 9 Tryd.underlying9
  · have := run_convert_bytes_arg w 67 5 Tryd.underlying67 Tryd.underlying5 g 0 m cap (bs.map fun b => (b.toNat : Int)) (by rw [List.length_map]; exact hl) (fun i hi => by
      have hi' : i < bs.length := by omega
      have hcell := h.cells (g := g) rfl i (byteV bs[i]) (by rw [List.getElem?_map, List.getElem?_eq_getElem hi']; rfl)
      have e : (⟨g, 0, none⟩ : Addr).add i = ⟨g, 0 + i, none⟩ := by unfold Addr.add; split <;> simp_all
      rw [e] at hcell
      rw [hcell, byteV, List.getD_eq_getElem?_getD, List.getElem?_map, List.getElem?_eq_getElem hi']
      rfl) 9 Tryd.underlying9
    rw [this]
    congr 2
    apply Go.WideShapes.bytes_inj
    simp only [strOfNums, List.map_map]
    exact (List.map_congr_left fun b _ => by simp).trans (List.map_id bs)
theorem oEnd2 {a b : ByteArray} {n m : Int} (h : a = b) (k : n = m) : Ending.returned (.tuple #[.string a, .int .i64 n]) = .returned (.tuple #[.string b, .int .i64 m]) := by rw [h, k]
set_option maxHeartbeats 400000 in
theorem join_none (w : World) :
    Calls Tryd.prog 21 #[.slice none 0 0] w fun e w' => e = .returned (.tuple #[.string (joinS []), .int .i64 (joinE [])]) ∧ Below w.heap.size w w' := by
  have hcv := run_convert_bytes_nil (P := Tryd.prog) w 67 5 Tryd.underlying67 Tryd.underlying5 0 0 9 Tryd.underlying9
  go_enter Tryd.func21, Tryd.ntmps21
  go_wp2
  go_loop [4, 10] (fun o i => i = .int .i64 0 ∧ o = .slice none 0 0) (fun _ i => 0)
  case atStart => exact ⟨rfl, rfl⟩
  case round =>
    obtain ⟨rfl, rfl⟩ := hrel
    go_wp2
    go_ret2
    exact ⟨rfl, Below.refl _ _⟩
theorem check_ok (k : Int) (n : Nat) (z : Int) (s : ByteArray) (w : World) (hk : 0 ≤ k ∧ k ≤ 3) (hs : s.size ≤ 1000000) (hc : chk ⟨k, n, z, s⟩ = 0) :
    Calls Tryd.prog 51 #[.agg #[.int .i64 k, .int .u64 n, .int .i64 z, .string s]] w fun e w' => e = .returned (.int .i64 0) ∧ Below w.heap.size w w' :=
  (check_any ⟨k, n, z, s⟩ w hk hs).mono fun _ _ ⟨h1, h2⟩ => ⟨h1.trans (oEndInt hc), h2⟩
theorem check_bad (k : Int) (n : Nat) (z : Int) (s : ByteArray) (x : Int) (w : World) (hk : 0 ≤ k ∧ k ≤ 3) (hs : s.size ≤ 1000000) (hc : x = chk ⟨k, n, z, s⟩) :
    Calls Tryd.prog 51 #[.agg #[.int .i64 k, .int .u64 n, .int .i64 z, .string s]] w fun e w' => e = .returned (.int .i64 x) ∧ Below w.heap.size w w' :=
  (check_any ⟨k, n, z, s⟩ w hk hs).mono fun _ _ ⟨h1, h2⟩ => ⟨h1.trans (oEndInt hc.symm), h2⟩
set_option maxHeartbeats 1000000 in
theorem join_some (b off cap : Nat) (ps : List PartV) (w : World) (hl : ps.length ≤ 400) (hf : ∀ p ∈ ps, p.fine)
    (hc : ∀ i (h : i < ps.length), (w.cell? ⟨b, off + i * 4, none⟩ = some (.int .i64 ps[i].k) ∧ w.cell? ⟨b, off + i * 4 + 1, none⟩ = some (.int .u64 ps[i].n) ∧ w.cell? ⟨b, off + i * 4 + 2, none⟩ = some (.int .i64 ps[i].z) ∧ w.cell? ⟨b, off + i * 4 + 3, none⟩ = some (.string ps[i].s))) :
    Calls Tryd.prog 21 #[.slice (some ⟨b, off, none⟩) ps.length cap] w fun e w' => e = .returned (.tuple #[.string (joinS ps), .int .i64 (joinE ps)]) ∧ Below w.heap.size w w' := by
  have HC := Lib.hid hc
  have HF := Lib.hid hf
  obtain ⟨n, hn⟩ : ∃ n, n = ps.length := ⟨_, rfl⟩
  rw [← hn] at hl ⊢
  have HN := Lib.hid hn
  clear hc hf hn
  go_enter Tryd.func21, Tryd.ntmps21
  go_wp2
  go_loopw [4, 10] (fun o i wr => ∃ k : Nat, k ≤ n ∧ i = .int .i64 k ∧ joinE (ps.take k) = 0 ∧ (encs (ps.take k)).length ≤ 2001 * k ∧ wr.ownsRow w.heap.size 5 1 o (encs (ps.take k)).length ((encs (ps.take k)).map byteV) ∧ Below w.heap.size w wr) (fun _ i _ => (n - (intOf i).toNat))
  case atStart => exact ⟨0, by omega, rfl, rfl, by simp [encs], World.ownsRow_nil _ _ _ _, Below.refl _ _⟩
  case round =>
    obtain ⟨k, hk, rfl, hjk, hlen, hown, hB⟩ := hrel
    have HOWN := Lib.hid hown
    have HB := Lib.hid hB
    have HJK := Lib.hid hjk
    clear hown hB hjk
    by_cases hlt : k < n
    · obtain ⟨p, hp⟩ : ∃ p, p = ps[k]'(by rw [← HN.out]; exact hlt) := ⟨_, rfl⟩
      have hcs := HC.out k (by rw [← HN.out]; exact hlt)
      rw [← hp] at hcs
      obtain ⟨q0, q1, q2, q3⟩ := hcs
      have hb0 := World.block_lt_of_cell? _ _ q0
      have c0 := (HB.out.cell (p := ⟨b, off + k * 4, none⟩) hb0).trans q0
      have c1 := (HB.out.cell (p := ⟨b, off + k * 4 + 1, none⟩) hb0).trans q1
      have c2 := (HB.out.cell (p := ⟨b, off + k * 4 + 2, none⟩) hb0).trans q2
      have c3 := (HB.out.cell (p := ⟨b, off + k * 4 + 3, none⟩) hb0).trans q3
      have hfine := HF.out p (by rw [hp]; exact List.getElem_mem _)
      have HP := Lib.hid hp
      have HFN := Lib.hid hfine
      have HTK : Hid (ps.take (k + 1) = ps.take k ++ [p]) := by
        rw [List.take_succ_eq_append_getElem (by rw [← HN.out]; exact hlt), hp]
        exact rfl
      clear q0 q1 q2 q3 hp hfine
      obtain ⟨pk, pn, pz, pstr⟩ := p
      simp only at c0 c1 c2 c3
      have hbox : ∀ j, (wr.alloc (.cells #[.int .i64 pk, .int .u64 pn, .int .i64 pz, .string pstr] 119)).cell? ⟨wr.heap.size, j, none⟩ = (#[.int .i64 pk, .int .u64 pn, .int .i64 pz, .string pstr] : Array Value)[j]? := fun j => by simp
      have HBOX := Lib.hid hbox
      clear hbox
      by_cases hchk : chk ⟨pk, pn, pz, pstr⟩ = 0
      · have HCHK := Lib.hid hchk
        clear hchk
        go_wp2_with (first | (go_at_call 51; refine (check_ok pk pn pz pstr _ HFN.out.1 (Nat.le_trans HFN.out.2 (by decide)) HCHK.out).mono ?_; rintro e w1 ⟨rfl, hB1⟩; have d0 := (hB1.cell (p := ⟨wr.heap.size, 0, none⟩) (by simp)).trans (HBOX.out 0); have d1 := (hB1.cell (p := ⟨wr.heap.size, 1, none⟩) (by simp)).trans (HBOX.out 1); have d2 := (hB1.cell (p := ⟨wr.heap.size, 2, none⟩) (by simp)).trans (HBOX.out 2); have d3 := (hB1.cell (p := ⟨wr.heap.size, 3, none⟩) (by simp)).trans (HBOX.out 3); have HO1 := Lib.hid (own_below (HOWN.out.alloc (.cells #[.int .i64 pk, .int .u64 pn, .int .i64 pz, .string pstr] 119)) hB1); have HB1 := Lib.hid ((HB.out.alloc HB.out.size (.cells #[.int .i64 pk, .int .u64 pn, .int .i64 pz, .string pstr] 119)).trans (hB1.mono (by have := HB.out.size; simp; omega))); clear hB1) | (go_at_call 52; refine (encode_any ⟨pk, pn, pz, pstr⟩ u4 _ _ w.heap.size _ HO1.out HFN.out.1 HCHK.out (Nat.le_trans HFN.out.2 (by decide)) (by omega) HB1.out.size).mono ?_; rintro e w2 ⟨v2, rfl, hown2, hB2⟩; have HO2 := Lib.hid hown2; have HB2 := Lib.hid hB2; clear hown2 hB2))
        go_roundw
        case rel => exact ⟨k + 1, by omega, by go_num, by rw [HTK.out, joinE_snoc HJK.out]; exact HCHK.out, by rw [HTK.out, encs_snoc, List.length_append]; have := enc_len _ HFN.out HCHK.out; omega, by rw [HTK.out, encs_snoc, List.length_append]; exact HO2.out, HB1.out.trans HB2.out⟩
        case measure => simp [intOf]; omega
      · have HCHK := Lib.hid hchk
        obtain ⟨x, hx⟩ : ∃ x, x = chk ⟨pk, pn, pz, pstr⟩ := ⟨_, rfl⟩
        rw [← hx] at hchk
        have hne : (x == 0) = false := by simpa using hchk
        have HX := Lib.hid hx
        clear hchk hx
        go_wp2_with (first | (go_at_call 51; refine (check_bad pk pn pz pstr x _ HFN.out.1 (Nat.le_trans HFN.out.2 (by decide)) HX.out).mono ?_; rintro e w1 ⟨rfl, hB1⟩; have HB1 := Lib.hid ((HB.out.alloc HB.out.size (.cells #[.int .i64 pk, .int .u64 pn, .int .i64 pz, .string pstr] 119)).trans (hB1.mono (by have := HB.out.size; simp; omega))); clear hB1))
        have HR := Lib.hid (join_bad (ps := ps) HJK.out HTK.out (HX.out ▸ HCHK.out))
        go_ret2
        exact ⟨oEnd2 HR.out.2.symm (HX.out.trans HR.out.1.symm), HB1.out⟩
    · obtain rfl : k = n := by omega
      have hcv := conv_own HOWN.out
      have HE : Hid ((⟨(encs (ps.take k)).toArray⟩ : ByteArray) = joinS ps ∧ joinE ps = 0) := by
        rw [List.take_of_length_le (by rw [← HN.out]; exact Nat.le_refl _)] at HJK ⊢
        exact ⟨by rw [joinS, if_pos HJK.out], HJK.out⟩
      go_wp2
      go_ret2
      exact ⟨oEnd2 HE.out.1 HE.out.2.symm, HB.out⟩
theorem join_any (v : Value) (ps : List PartV) (w : World) (hl : ps.length ≤ 400) (hf : ∀ p ∈ ps, p.fine) (h : PartsAt w v ps) :
    Calls Tryd.prog 21 #[v] w fun e w' => e = .returned (.tuple #[.string (joinS ps), .int .i64 (joinE ps)]) ∧ Below w.heap.size w w' := by
  rcases h with ⟨rfl, rfl⟩ | ⟨b, off, cap, rfl, hc⟩
  · exact join_none w
  · exact join_some b off cap ps w hl hf hc
end Go.Proofs.YtodajejjhfpdmaaDoor
