/-
  The walk of octet's encode: it appends a part's encoding to a slice of bytes that the call itself has made.
-/
import Derived.Test.YtodajejjhfpdmaaDoorOctA
namespace Go.Proofs.YtodajejjhfpdmaaDoor
open Go.RowKit Go.Instr

def byteV (b : UInt8) : Value := .int .u8 b.toNat
def beN (n z : Nat) : List UInt8 := (List.range z).map fun i => UInt8.ofNat (n / 256 ^ (z - 1 - i))
def enc (p : PartV) : List UInt8 := if p.k = 1 then beN p.n p.z.toNat else if p.k = 2 then UInt8.ofNat p.s.size :: p.s.data.toList else p.s.data.toList
theorem beN_len (n z : Nat) : (beN n z).length = z := by simp [beN]
theorem beN_take (n z i : Nat) (h : i < z) : (beN n z).take (i + 1) = (beN n z).take i ++ [UInt8.ofNat (n / 256 ^ (z - 1 - i))] := by
  rw [List.take_succ_eq_append_getElem (by rw [beN_len]; exact h)]
  simp [beN]
def Enc (base : Nat) (w : World) (m : Nat) (xs : List UInt8) (e : Ending) (w' : World) : Prop :=
  ∃ v', e = .returned v' ∧ w'.ownsRow base 5 1 v' m (xs.map byteV) ∧ Below base w w'
theorem Tryd.info5 : (Tryd.prog.info? 5).map (fun i => (i.zero, i.size, i.bytes)) = some (some (.int .u8 0), 1, 1) := by kernel_rfl
theorem byteV_one (n j : Nat) : byteV (UInt8.ofNat (n / 256 ^ j)) = .int .u8 ((n : Int) / 2 ^ (8 * j) % 256) := by
  have e : ((n : Int) / 2 ^ (8 * j) % 256) = ((n / 256 ^ j % 256 : Nat) : Int) := by
    rw [Int.natCast_emod, Int.natCast_ediv, Int.natCast_pow, Int.pow_mul]; rfl
  rw [e, byteV, UInt8.toNat_ofNat']
theorem grown_box {w w' : World} {o o2 : Obj} {row : Option Nat} {k : Nat} (hg : (w.alloc o2).grownBy w' row) (hb : w.heap[k]? = some o) (hne : row ≠ some k) : w'.heap[k]? = some o := by
  have hlt : k < w.heap.size := (Array.getElem?_eq_some_iff.1 hb).1
  rw [hg.block k (by simp; omega) (fun h => hne h.symm)]
  rw [Below.heap_alloc w o2 k hlt]
  exact hb
set_option maxHeartbeats 1000000 in
theorem encode_num (n z : Nat) (s : ByteArray) (v : Value) (m : Nat) (bs : List UInt8) (base : Nat) (w : World) (hown : w.ownsRow base 5 1 v m (bs.map byteV)) (h1 : 1 ≤ z) (h8 : z ≤ 8) (hm : m ≤ 1000000) (hbase : base ≤ w.heap.size) :
    Calls Tryd.prog 52 #[(PartV.mk 1 n z s).val, v] w (Enc base w (m + z) (bs ++ beN n z)) := by
  unfold PartV.val PartV.cells
  obtain ⟨i0, hi, hz0, hz1, hz2⟩ := info_parts Tryd.info5
  have HI := Lib.hid hi
  have HZ0 := Lib.hid hz0
  have HZ1 := Lib.hid hz1
  have HZ2 := Lib.hid hz2
  have HO := Lib.hid hown
  clear hi hz0 hz1 hz2 hown
  go_enter Tryd.func52, Tryd.ntmps52
  go_wp2
  go_loopw [1, 12] (fun o i wr => ∃ k : Nat, k ≤ z ∧ i = .int .i64 k ∧ wr.ownsRow base 5 1 o (m + k) ((bs ++ (beN n z).take k).map byteV) ∧ Below base w wr ∧ wr.heap[w.heap.size]? = some (.cells #[.int .i64 1, .int .u64 n, .int .i64 z, .string s] 119)) (fun _ i _ => (z - (intOf i).toNat))
  case atStart => exact ⟨0, by omega, rfl, by simpa using HO.out.alloc _, (Below.refl _ _).alloc hbase _, heap_alloc_new _ _⟩
  case round =>
    obtain ⟨k, hk, rfl, hown, hB, hbox⟩ := hrel
    have c1 : wr.cell? ⟨w.heap.size, 1, none⟩ = some (.int .u64 n) := cell_of_row wr w.heap.size 1 _ 119 (0, 0) hbox
    have c2 : wr.cell? ⟨w.heap.size, 2, none⟩ = some (.int .i64 z) := cell_of_row wr w.heap.size 2 _ 119 (0, 0) hbox
    have HNE := Lib.hid (own_ne hown hbox (by decide))
    have HOWN := Lib.hid hown
    have HB := Lib.hid hB
    have HBOX := Lib.hid hbox
    have HLT : Hid (w.heap.size < wr.heap.size) := (Array.getElem?_eq_some_iff.1 hbox).1
    clear hown hB hbox
    by_cases hlt : k < z
    · obtain ⟨j, hj, hjz⟩ : ∃ j : Nat, (z : Int) - 1 - (k : Int) = (j : Int) ∧ j = z - 1 - k := ⟨z - 1 - k, by omega, rfl⟩
      have HJ := Lib.hid hjz
      have hj8 : j < 8 := by omega
      clear hjz
      go_wp2_with (first | (at_builtin; refine wpList_append_own1 _ rfl (.tmp 15) (.tmp 26) 67 rfl base 5 i0 (.int .u8 0) 1 1 Tryd.underlying67 HI.out HZ0.out HZ1.out HZ2.out rfl (by decide) u1 (m + k) _ rfl (HOWN.out.alloc _) ⟨wr.heap.size, 0, none⟩ 1 1 [.int .u8 ((n : Int) / 2 ^ (8 * j) % 256)] rfl rfl (cell_one_new _ _ _) (by simp [Value.oneCell']) (by unfold maxLen; omega) (by omega) (by have := HLT.out; simp; omega) (by decide) ?_; intro g3 c3 w3 hg3 hown3 hgrow3; have HG3 := Lib.hid hg3; have HOWN3 := Lib.hid hown3; have HGR3 := Lib.hid hgrow3; clear hg3 hown3 hgrow3))
      go_roundw
      case rel => exact ⟨k + 1, by omega, by go_num, by rw [beN_take n z k hlt, ← HJ.out, ← List.append_assoc, List.map_append, List.map_singleton, byteV_one]; exact HOWN3.out, (HB.out.alloc (by have := HB.out.size; omega) _).grown HGR3.out (by have := HB.out.size; simp; omega) (fun j hj => (HOWN.out.lt j hj).1), grown_box HGR3.out HBOX.out HNE.out⟩
      case measure => simp [intOf]; omega
    · obtain rfl : k = z := by omega
      have HE : Hid (Enc base w (m + k) (bs ++ beN n k) (.returned u1) wr) := ⟨u1, rfl, by have := HOWN.out; rwa [List.take_of_length_le (by rw [beN_len]; exact Nat.le_refl _)] at this, HB.out⟩
      go_wp2
      go_ret
      exact HE.out

set_option maxHeartbeats 1000000 in
theorem encode_text (n : Nat) (z : Int) (s : ByteArray) (v : Value) (m : Nat) (bs : List UInt8) (base : Nat) (w : World) (hown : w.ownsRow base 5 1 v m (bs.map byteV)) (hs : s.size ≤ 255) (hm : m ≤ 1000000) (hbase : base ≤ w.heap.size) :
    Calls Tryd.prog 52 #[(PartV.mk 2 n z s).val, v] w (Enc base w (m + 1 + s.size) (bs ++ (UInt8.ofNat s.size :: s.data.toList))) := by
  unfold PartV.val PartV.cells
  obtain ⟨i0, hi, hz0, hz1, hz2⟩ := info_parts Tryd.info5
  have HI := Lib.hid hi
  have HZ0 := Lib.hid hz0
  have HZ1 := Lib.hid hz1
  have HZ2 := Lib.hid hz2
  have HO := Lib.hid hown
  have HNE := Lib.hid (own_ne ((hown.alloc (.cells #[.int .i64 2, .int .u64 n, .int .i64 z, .string s] 119))) (heap_alloc_new w (.cells #[.int .i64 2, .int .u64 n, .int .i64 z, .string s] 119)) (by decide))
  clear hi hz0 hz1 hz2 hown
  go_enter Tryd.func52, Tryd.ntmps52
  go_wp2_with (first | (at_builtin; refine wpList_append_own1 _ rfl (.tmp 32) (.tmp 37) 67 rfl base 5 i0 (.int .u8 0) 1 1 Tryd.underlying67 HI.out HZ0.out HZ1.out HZ2.out rfl (by decide) v m _ rfl ((HO.out.alloc _).alloc _) ⟨w.heap.size + 1, 0, none⟩ 1 1 [.int .u8 s.size] rfl rfl (by have := @cell_one_new (w.alloc (.cells #[.int .i64 2, .int .u64 n, .int .i64 z, .string s] 119)) (.int .u8 s.size) 5; simpa using this) (by simp [Value.oneCell']) (by unfold maxLen; omega) (by omega) (by simp; omega) (by decide) ?_; intro g3 c3 w3 hg3 hown3 hgrow3; have HG3 := Lib.hid hg3; have HOWN3 := Lib.hid hown3; have HGR3 := Lib.hid hgrow3; have hbx := grown_box hgrow3 (heap_alloc_new w _) HNE.out; have cs : w3.cell? ⟨w.heap.size, 3, none⟩ = some (.string s) := cell_of_row w3 w.heap.size 3 _ 119 (0, 0) hbx; clear hbx; clear hg3 hown3 hgrow3) | (at_builtin; refine Lib.wpList_append_own_string _ rfl (.tmp 39) (.tmp 41) 67 9 rfl base 5 i0 Tryd.underlying67 Tryd.underlying9 HI.out HZ0.out HZ1.out HZ2.out _ _ _ rfl HOWN3.out s rfl (by unfold maxLen; omega) (by omega) (by have := HGR3.out.size; simp at this; omega) ?_; intro v5 w5 hown5 hgrow5 hnil5; have HOWN5 := Lib.hid hown5; have HGR5 := Lib.hid hgrow5; clear hown5 hgrow5 hnil5))
  have hB3 : Below base w w3 := (((Below.refl _ _).alloc hbase _).alloc (by simp; omega) _).grown HGR3.out (by simp; omega) (fun j hj => (HO.out.lt j hj).1)
  have hB5 : Below base w w5 := hB3.grown HGR5.out (by have := hB3.size; omega) (fun j hj => (HOWN3.out.lt j hj).1)
  have HE : Hid (Enc base w (m + 1 + s.size) (bs ++ (UInt8.ofNat s.size :: s.data.toList)) (.returned v5) w5) := ⟨v5, rfl, by
    have := HOWN5.out
    have e : List.map byteV (bs ++ (UInt8.ofNat s.size :: s.data.toList)) = List.map byteV bs ++ [Value.int IntKind.u8 s.size] ++ Lib.strCells s := by
      rw [List.map_append, List.map_cons, byteV, UInt8.toNat_ofNat', Nat.mod_eq_of_lt (by omega), List.append_assoc]
      rfl
    rw [e]
    exact this, hB5⟩
  clear cs hB3 hB5
  go_ret
  exact HE.out
set_option maxHeartbeats 1000000 in
theorem encode_raw (n : Nat) (z : Int) (s : ByteArray) (v : Value) (m : Nat) (bs : List UInt8) (base : Nat) (w : World) (hown : w.ownsRow base 5 1 v m (bs.map byteV)) (hs : s.size ≤ 1000000) (hm : m ≤ 1000000) (hbase : base ≤ w.heap.size) :
    Calls Tryd.prog 52 #[(PartV.mk 3 n z s).val, v] w (Enc base w (m + s.size) (bs ++ s.data.toList)) := by
  unfold PartV.val PartV.cells
  obtain ⟨i0, hi, hz0, hz1, hz2⟩ := info_parts Tryd.info5
  have HI := Lib.hid hi
  have HZ0 := Lib.hid hz0
  have HZ1 := Lib.hid hz1
  have HZ2 := Lib.hid hz2
  have HO := Lib.hid hown
  clear hi hz0 hz1 hz2 hown
  go_enter Tryd.func52, Tryd.ntmps52
  go_wp2_with (first | (at_builtin; refine Lib.wpList_append_own_string _ rfl (.tmp 39) (.tmp 41) 67 9 rfl base 5 i0 Tryd.underlying67 Tryd.underlying9 HI.out HZ0.out HZ1.out HZ2.out _ _ _ rfl (HO.out.alloc _) s rfl (by unfold maxLen; omega) (by omega) (by simp; omega) ?_; intro v5 w5 hown5 hgrow5 hnil5; have HOWN5 := Lib.hid hown5; have HGR5 := Lib.hid hgrow5; clear hown5 hgrow5 hnil5))
  have hB5 : Below base w w5 := ((Below.refl _ _).alloc hbase _).grown HGR5.out (by simp; omega) (fun j hj => (HO.out.lt j hj).1)
  have HE : Hid (Enc base w (m + s.size) (bs ++ s.data.toList) (.returned v5) w5) := ⟨v5, rfl, by
    have := HOWN5.out
    rw [List.map_append]
    exact this, hB5⟩
  clear hB5
  go_ret
  exact HE.out
/-- Whatever the part, if it is valid. -/
theorem encode_any (p : PartV) (v : Value) (m : Nat) (bs : List UInt8) (base : Nat) (w : World) (hown : w.ownsRow base 5 1 v m (bs.map byteV)) (hk : 0 ≤ p.k ∧ p.k ≤ 3) (hc : chk p = 0) (hs : p.s.size ≤ 1000000) (hm : m ≤ 1000000) (hbase : base ≤ w.heap.size) :
    Calls Tryd.prog 52 #[p.val, v] w (Enc base w (m + (enc p).length) (bs ++ enc p)) := by
  obtain ⟨k, n, z, s⟩ := p
  simp only at hk hs
  have hcs : k = 0 ∨ k = 1 ∨ k = 2 ∨ k = 3 := by omega
  rcases hcs with rfl | rfl | rfl | rfl
  · simp [chk] at hc
  · have hz : sizedB z = true := by
      cases h : sizedB z with
      | true => rfl
      | false => simp [chk, h] at hc
    have hz2 : 1 ≤ z ∧ z ≤ 8 := by simpa [sizedB] using hz
    obtain ⟨q, rfl⟩ := Int.eq_ofNat_of_zero_le (show 0 ≤ z by omega)
    have := encode_num n q s v m bs base w hown (by omega) (by omega) hm hbase
    simp only [enc, Int.toNat_natCast, if_true, beN_len]
    exact this
  · have hl : s.size ≤ 255 := by
      rcases Nat.lt_or_ge 255 s.size with h | h
      · simp [chk, h] at hc
      · exact h
    have := encode_text n z s v m bs base w hown hl hm hbase
    have e : enc (PartV.mk 2 n z s) = UInt8.ofNat s.size :: s.data.toList := by simp [enc]
    have el : (UInt8.ofNat s.size :: s.data.toList).length = 1 + s.size := by rw [List.length_cons, Nat.add_comm]; rfl
    rw [e, el, ← Nat.add_assoc]
    exact this
  · have := encode_raw n z s v m bs base w hown hs hm hbase
    have e : enc (PartV.mk 3 n z s) = s.data.toList := by simp [enc]
    rw [e]
    exact this
end Go.Proofs.YtodajejjhfpdmaaDoor
