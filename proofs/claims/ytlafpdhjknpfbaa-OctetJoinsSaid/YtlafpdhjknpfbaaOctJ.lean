/-
  The walk of the reference's Join: the concatenated encodings, or the error of the first part that is not valid.
-/
import Derived.Test.YtlafpdhjknpfbaaOctI
namespace Go.Proofs.Ytlafpdhjknpfbaa
open Go.RowKit Go.Instr

/-- A part of the reference: its kind, its size, its number, its text. -/
structure RefV where
  k : Int
  z : Int
  n : Nat
  s : ByteArray
def RefV.fine (p : RefV) : Prop := (0 ≤ p.k ∧ p.k ≤ 3) ∧ p.n ≤ 18446744073709551615 ∧ p.s.size ≤ 300
/-- The program's part that is meant. -/
def RefV.part (p : RefV) : PartV := if p.k = 0 then ⟨0, 0, 0, ⟨#[]⟩⟩ else if p.k = 1 then ⟨1, p.n, p.z, ⟨#[]⟩⟩ else ⟨p.k, 0, 0, p.s⟩
def parts (l : List RefV) : List PartV := l.map RefV.part
theorem chk_none (z : Int) (n : Nat) (s : ByteArray) : chk (RefV.part ⟨0, z, n, s⟩) = 1 := by simp [RefV.part, chk]
theorem chk_num (z : Int) (n : Nat) (s : ByteArray) : chk (RefV.part ⟨1, z, n, s⟩) = if fitsZ n z then 0 else 9 := by simp [RefV.part, chk, fitsZ]
theorem chk_text (z : Int) (n : Nat) (s : ByteArray) : chk (RefV.part ⟨2, z, n, s⟩) = if 255 < s.size then 3 else 0 := by simp [RefV.part, chk]
theorem chk_raw (z : Int) (n : Nat) (s : ByteArray) : chk (RefV.part ⟨3, z, n, s⟩) = 0 := by simp [RefV.part, chk]
theorem enc_num (z : Int) (n : Nat) (s : ByteArray) : enc (RefV.part ⟨1, z, n, s⟩) = beN n z.toNat := by simp [RefV.part, enc]
theorem enc_text (z : Int) (n : Nat) (s : ByteArray) : enc (RefV.part ⟨2, z, n, s⟩) = UInt8.ofNat s.size :: s.data.toList := by simp [RefV.part, enc]
theorem enc_raw (z : Int) (n : Nat) (s : ByteArray) : enc (RefV.part ⟨3, z, n, s⟩) = s.data.toList := by simp [RefV.part, enc]
def RefsAt (w : World) (v : Value) (ps : List RefV) : Prop :=
  (v = .slice none 0 0 ∧ ps = []) ∨ ∃ b off cap, v = .slice (some ⟨b, off, none⟩) ps.length cap ∧
    ∀ i (h : i < ps.length), (w.cell? ⟨b, off + i * 4, none⟩ = some (.int .i64 ps[i].k) ∧ w.cell? ⟨b, off + i * 4 + 1, none⟩ = some (.int .i64 ps[i].z) ∧ w.cell? ⟨b, off + i * 4 + 2, none⟩ = some (.int .u64 ps[i].n) ∧ w.cell? ⟨b, off + i * 4 + 3, none⟩ = some (.string ps[i].s))
theorem oneB_one (x : Nat) : (oneB x 1).data.toList = [UInt8.ofNat x] := by
  show beN x 1 = _
  simp [beN]
theorem parts_bad {ps : List RefV} {k : Nat} {p : RefV} (h : joinE (parts (ps.take k)) = 0) (ht : parts (ps.take (k + 1)) = parts (ps.take k) ++ [p.part]) (hc : ¬ chk p.part = 0) : joinE (parts ps) = chk p.part ∧ joinS (parts ps) = ⟨#[]⟩ := by
  have e : ∀ j, parts (ps.take j) = (parts ps).take j := fun j => by rw [parts, parts, List.map_take]
  rw [e] at h ht
  rw [e] at ht
  exact join_bad h ht hc
set_option maxRecDepth 100000 in
set_option maxHeartbeats 2000000 in
theorem refJoin_some (b off cap : Nat) (ps : List RefV) (w : World) (hl : ps.length ≤ 20) (hf : ∀ p ∈ ps, p.fine)
    (hc : ∀ i (h : i < ps.length), (w.cell? ⟨b, off + i * 4, none⟩ = some (.int .i64 ps[i].k) ∧ w.cell? ⟨b, off + i * 4 + 1, none⟩ = some (.int .i64 ps[i].z) ∧ w.cell? ⟨b, off + i * 4 + 2, none⟩ = some (.int .u64 ps[i].n) ∧ w.cell? ⟨b, off + i * 4 + 3, none⟩ = some (.string ps[i].s))) :
    Calls Try.prog 13 #[.slice (some ⟨b, off, none⟩) ps.length cap] w fun e w' => e = .returned (.tuple #[.string (joinS (parts ps)), .int .i64 (joinE (parts ps))]) ∧ Below w.heap.size w w' := by
  have HC := Lib.hid hc
  have HF := Lib.hid hf
  obtain ⟨n, hn⟩ : ∃ n, n = ps.length := ⟨_, rfl⟩
  rw [← hn] at hl ⊢
  have HN := Lib.hid hn
  clear hc hf hn
  go_enter Try.func13, Try.ntmps13
  go_wp2
  go_loopw [4, 5] (fun o i wr => ∃ (k : Nat) (t : ByteArray), k ≤ n ∧ i = .int .i64 k ∧ o = .string t ∧ joinE (parts (ps.take k)) = 0 ∧ t.data.toList = encs (parts (ps.take k)) ∧ t.size ≤ 301 * k ∧ Below w.heap.size w wr) (fun _ i _ => (n - (intOf i).toNat))
  case atStart => exact ⟨0, ⟨#[]⟩, by omega, rfl, rfl, rfl, rfl, by decide, Below.refl _ _⟩
  case round =>
    obtain ⟨k, t, hk, rfl, rfl, hjk, htd, hts, hB⟩ := hrel
    have HB := Lib.hid hB
    have HJK := Lib.hid hjk
    have HTD := Lib.hid htd
    clear hB hjk htd
    by_cases hlt : k < n
    · obtain ⟨p, hp⟩ : ∃ p, p = ps[k]'(by rw [← HN.out]; exact hlt) := ⟨_, rfl⟩
      have hcs := HC.out k (by rw [← HN.out]; exact hlt)
      rw [← hp] at hcs
      obtain ⟨q0, q1, q2, q3⟩ := hcs
      have hb0 := World.block_lt_of_cell? _ _ q0
      have c0 := (HB.out.cell (p := ⟨b, off + k * 4, none⟩) hb0).trans q0
      have c1 := (HB.out.cell (p := ⟨b, off + k * 4 + 1, none⟩) hb0).trans q1
      have c2 := (HB.out.cell (p := ⟨b, off + k * 4 + 2, none⟩) hb0).trans q2
      have c3 := (HB.out.cell (p := ⟨b, off + k * 4 + 3, none⟩) hb0).trans q3
      have hfine := HF.out p (by rw [hp]; exact List.getElem_mem _)
      have HTK : Hid (parts (ps.take (k + 1)) = parts (ps.take k) ++ [p.part]) := by
        rw [List.take_succ_eq_append_getElem (by rw [← HN.out]; exact hlt), hp, parts, List.map_append]
        exact rfl
      obtain ⟨hfk, hfn, hfs⟩ := hfine
      clear q0 q1 q2 q3 hp
      obtain ⟨pk, pz, pn, pstr⟩ := p
      simp only at c0 c1 c2 c3 hfk hfn hfs
      have happ : ∀ a b : ByteArray, (a ++ b).size = a.size + b.size := fun a b => ByteArray.size_append
      have hkc : pk = 0 ∨ pk = 1 ∨ pk = 2 ∨ pk = 3 := by omega
      rcases hkc with rfl | rfl | rfl | rfl
      · have HBD := Lib.hid (parts_bad HJK.out HTK.out (by rw [chk_none]; decide))
        go_wp2
        go_ret2
        exact ⟨oEnd2 HBD.out.2.symm (by rw [HBD.out.1, chk_none]), HB.out.alloc HB.out.size _⟩
      · cases hfz : fitsZ pn pz with
        | false =>
          have hck : chk (RefV.part ⟨1, pz, pn, pstr⟩) = 9 := by rw [chk_num, hfz]; rfl
          have HBD := Lib.hid (parts_bad HJK.out HTK.out (by rw [hck]; decide))
          have HCK := Lib.hid hck
          clear hck
          go_wp2_with (go_at_call 34; refine (refFits_any pn pz _ hfn).mono ?_; rintro e w1 ⟨rfl, rfl⟩)
          go_ret2
          exact ⟨oEnd2 HBD.out.2.symm (by rw [HBD.out.1, HCK.out]), HB.out.alloc HB.out.size _⟩
        | true =>
          have hck : chk (RefV.part ⟨1, pz, pn, pstr⟩) = 0 := by rw [chk_num, hfz]; rfl
          have hz2 : 1 ≤ pz ∧ pz ≤ 8 := by
            have : sizedB pz = true := by unfold fitsZ at hfz; rw [Bool.and_eq_true] at hfz; exact hfz.1
            simpa [sizedB] using this
          obtain ⟨m, rfl⟩ := Int.eq_ofNat_of_zero_le (show 0 ≤ pz by omega)
          have hm8 : m ≤ 8 := by omega
          have hos := oneB_size pn m
          have HCK := Lib.hid hck
          clear hck
          go_wp2_with (first | (go_at_call 34; refine (refFits_any pn m _ hfn).mono ?_; rintro e w1 ⟨rfl, rfl⟩) | (go_at_call 35; refine (refNum_any pn m _ hm8 hfn).mono ?_; rintro e w2 ⟨rfl, hB2⟩))
          go_roundw
          case rel => exact ⟨k + 1, t ++ oneB pn m, by omega, by go_num, rfl, by rw [HTK.out, joinE_snoc HJK.out]; exact HCK.out, by rw [HTK.out, encs_snoc, enc_num, Int.toNat_natCast, ByteArray.data_append, Array.toList_append, HTD.out]; rfl, by rw [happ, hos]; omega, HB.out.trans (((Below.refl _ _).alloc HB.out.size _).trans (hB2.mono (by have := HB.out.size; simp; omega)))⟩
          case measure => simp [intOf]; omega
      · by_cases hlong : 255 < pstr.size
        · have hck : chk (RefV.part ⟨2, pz, pn, pstr⟩) = 3 := by rw [chk_text, if_pos hlong]
          have HBD := Lib.hid (parts_bad HJK.out HTK.out (by rw [hck]; decide))
          have HCK := Lib.hid hck
          have hli : (255 : Int) < (pstr.size : Int) := by omega
          clear hck
          go_wp2
          go_ret2
          exact ⟨oEnd2 HBD.out.2.symm (by rw [HBD.out.1, HCK.out]), HB.out.alloc HB.out.size _⟩
        · have hck : chk (RefV.part ⟨2, pz, pn, pstr⟩) = 0 := by rw [chk_text, if_neg hlong]
          have HCK := Lib.hid hck
          have hli : (pstr.size : Int) ≤ 255 := by omega
          have hls : pstr.size ≤ 18446744073709551615 := by omega
          have hos := oneB_size pstr.size 1
          clear hck
          go_wp2
          have hwr : IntKind.u64.wrap (pstr.size : Int) = (pstr.size : Int) := IntWalk.u64_in _ (by omega)
          go_region_with (go_at_call 35; refine (refNum_any pstr.size 1 _ (by decide) hls).mono ?_; rintro e w2 ⟨rfl, hB2⟩; have d3 := hB2.cell (p := ⟨wr.heap.size, 3, none⟩) (by simp))
          all_goals
            go_wp2
            go_roundw
            case rel => exact ⟨k + 1, t ++ (oneB pstr.size 1 ++ pstr), by omega, by go_num, rfl, by rw [HTK.out, joinE_snoc HJK.out]; exact HCK.out, by rw [HTK.out, encs_snoc, enc_text, ByteArray.data_append, Array.toList_append, ByteArray.data_append, Array.toList_append, HTD.out, oneB_one]; rfl, by rw [happ, happ, hos]; omega, HB.out.trans (((Below.refl _ _).alloc HB.out.size _).drew.trans (hB2.mono (by have := HB.out.size; simp; omega)))⟩
            case measure => simp [intOf]; omega
      · have hck : chk (RefV.part ⟨3, pz, pn, pstr⟩) = 0 := chk_raw _ _ _
        have HCK := Lib.hid hck
        clear hck
        go_wp2
        go_roundw
        case rel => exact ⟨k + 1, t ++ pstr, by omega, by go_num, rfl, by rw [HTK.out, joinE_snoc HJK.out]; exact HCK.out, by rw [HTK.out, encs_snoc, enc_raw, ByteArray.data_append, Array.toList_append, HTD.out], by rw [happ]; omega, HB.out.alloc HB.out.size _⟩
        case measure => simp [intOf]; omega
    · obtain rfl : k = n := by omega
      have HE : Hid (t = joinS (parts ps) ∧ joinE (parts ps) = 0) := by
        rw [List.take_of_length_le (by rw [← HN.out]; exact Nat.le_refl _)] at HJK HTD
        refine ⟨?_, HJK.out⟩
        apply Go.WideShapes.bytes_inj
        rw [joinS, if_pos HJK.out]
        exact HTD.out
      go_wp2
      go_ret2
      exact ⟨oEnd2 HE.out.1 HE.out.2.symm, HB.out⟩
set_option maxHeartbeats 400000 in
theorem refJoin_none (w : World) :
    Calls Try.prog 13 #[.slice none 0 0] w fun e w' => e = .returned (.tuple #[.string (joinS (parts [])), .int .i64 (joinE (parts []))]) ∧ Below w.heap.size w w' := by
  go_enter Try.func13, Try.ntmps13
  go_wp2
  go_loop [4, 5] (fun o i => i = .int .i64 0 ∧ o = .string ⟨#[]⟩) (fun _ i => 0)
  case atStart => exact ⟨rfl, rfl⟩
  case round =>
    obtain ⟨rfl, rfl⟩ := hrel
    go_wp2
    go_ret2
    exact ⟨rfl, Below.refl _ _⟩
theorem refJoin_any (v : Value) (ps : List RefV) (w : World) (hl : ps.length ≤ 20) (hf : ∀ p ∈ ps, p.fine) (h : RefsAt w v ps) :
    Calls Try.prog 13 #[v] w fun e w' => e = .returned (.tuple #[.string (joinS (parts ps)), .int .i64 (joinE (parts ps))]) ∧ Below w.heap.size w w' := by
  rcases h with ⟨rfl, rfl⟩ | ⟨b, off, cap, rfl, hc⟩
  · exact refJoin_none w
  · exact refJoin_some b off cap ps w hl hf hc
end Go.Proofs.Ytlafpdhjknpfbaa
