import Derived.Test.YtodajejjhfpdmaaDoorProg
import Derived.Test.YtodajejjhfpdmaaDoorCrcM
import Derived.WalkKit
import Derived.WalkSpells
import Derived.WalkLawsBesides
import Derived.Laws.BitsAllLaws
import Derived.Lib.Hide
import Derived.Handy
import Derived.RegionTactic
import Derived.ChangeAlike
import Derived.Laws.IdiomStrings
import Derived.IntWalk
import Derived.Deep.RegionWith
import Derived.Deep.RegionHeld3
import Derived.Deep.QuietTactic
import Derived.BigQuiet
import Derived.StillTailTactics
namespace Go.Proofs.YtodajejjhfpdmaaDoor
open Go.RowKit Go.Instr

theorem endInt {k : IntKind} {a b : Int} (h : a = b) : Ending.returned (.int k a) = .returned (.int k b) := congrArg (fun n => Ending.returned (.int k n)) h
theorem and1_u32 (x : Nat) (h : x < 4294967296) : bits BinOp.and IntKind.u32 (x : Int) 1 = ((x % 2 : Nat) : Int) := by
  have := u32_and_nat x 1 h (by decide)
  rw [nat_mask1] at this
  exact this
theorem step_yes {x : Nat} (h : x < 4294967296) (hb : (bits BinOp.and IntKind.u32 (x : Int) 1 != 0) = true) : bits BinOp.xor IntKind.u32 ((x : Int) / 2) 3988292384 = (step1 x : Nat) := by
  rw [and1_u32 x h] at hb
  have h2 : x % 2 = 1 := by simp at hb; omega
  have := u32_xor_nat (x / 2) 3988292384 (by omega) (by decide)
  rw [step1, if_pos h2, ← this]
  rfl
theorem step_no {x : Nat} (h : x < 4294967296) (hb : (bits BinOp.and IntKind.u32 (x : Int) 1 != 0) = false) : ((x : Int) / 2) = (step1 x : Nat) := by
  rw [and1_u32 x h] at hb
  have h2 : ¬ x % 2 = 1 := by simp at hb; omega
  rw [step1, if_neg h2]
  rfl
set_option maxHeartbeats 400000 in
theorem feed_any (r b : Nat) (w : World) (hr : r < 4294967296) (hb : b < 256) :
    Calls Tryd.prog 81 #[.int .u32 r, .int .u8 b] w fun e w' => e = .returned (.int .u32 (feedN r b)) ∧ w = w' := by
  have hx : bits BinOp.xor IntKind.u32 (r : Int) (b : Int) = ((r ^^^ b : Nat) : Int) := u32_xor_nat r b hr (by omega)
  go_enter Tryd.func81, Tryd.ntmps81
  go_wp2
  go_loop [0, 10] (fun a i => ∃ k : Nat, k ≤ 8 ∧ i = .int .i64 k ∧ a = .int .u32 (steps k (r ^^^ b) : Nat)) (fun _ i => (8 - (intOf i)).toNat)
  case atStart => exact ⟨0, by omega, rfl, rfl⟩
  case round =>
    clear hx
    obtain ⟨k, hk, rfl, rfl⟩ := hrel
    obtain ⟨x, hxs⟩ : ∃ x, x = steps k (r ^^^ b) := ⟨_, rfl⟩
    have hlt : x < 4294967296 := by rw [hxs]; exact steps_lt k (Nat.xor_lt_two_pow (n := 32) (by omega) (by omega))
    have hnext : steps (k + 1) (r ^^^ b) = step1 x := by rw [hxs]; rfl
    have hend : k = 8 → feedN r b = x := by intro h; subst h; exact hxs.symm
    rw [← hxs]
    have H1 := Lib.hid hnext
    have H2 := Lib.hid hend
    clear hnext hxs hend
    by_cases hlt8 : k < 8
    · go_wp2
      · have hb : (bits BinOp.and IntKind.u32 (x : Int) 1 != 0) = true := by assumption
        have hs := step_yes hlt hb
        go_round
        case rel => exact ⟨k + 1, by omega, by go_num, by rw [H1.out, hs]⟩
        case measure => simp [intOf]; omega
      · have hb : (bits BinOp.and IntKind.u32 (x : Int) 1 != 0) = false := by assumption
        have hs := step_no hlt hb
        go_round
        case rel => exact ⟨k + 1, by omega, by go_num, by rw [H1.out, hs]⟩
        case measure => simp [intOf]; omega
    · go_wp2
      go_ret
      exact ⟨endInt (by rw [H2.out (by omega)]), rfl⟩

def flat (ss : List ByteArray) : List UInt8 := ss.flatMap (fun s => s.data.toList)
theorem take_snoc (s : ByteArray) (k : Nat) (h : k < s.size) : s.data.toList.take (k + 1) = s.data.toList.take k ++ [s[k]] := by
  rw [List.take_succ_eq_append_getElem (by simpa using h)]; rfl
theorem flat_snoc (ss : List ByteArray) (k : Nat) (h : k < ss.length) : flat (ss.take (k + 1)) = flat (ss.take k) ++ (ss.getD k ByteArray.empty).data.toList := by
  unfold flat
  rw [List.take_succ_eq_append_getElem h, List.flatMap_append]
  simp [List.getD_eq_getElem?_getD, List.getElem?_eq_getElem h]
theorem not_u32 (x : Nat) (h : x < 4294967296) : bits BinOp.xor IntKind.u32 4294967295 (x : Int) = ((4294967295 - x : Nat) : Int) := by
  have h1 := u32_xor_nat 4294967295 x (by decide) h
  rw [← not_nat h] at h1
  exact h1
set_option maxHeartbeats 400000 in
theorem sum_some (b off cap : Nat) (ss : List ByteArray) (w : World) (hl : ss.length ≤ maxLen)
    (hs : ∀ i, i < ss.length → (ss.getD i ByteArray.empty).size ≤ maxLen)
    (hc : ∀ i, i < ss.length → w.cell? ⟨b, off + i, none⟩ = some (.string (ss.getD i ByteArray.empty))) :
    Calls Tryd.prog 68 #[.slice (some ⟨b, off, none⟩) ss.length cap] w fun e w' => e = .returned (.int .u32 (crcN (flat ss))) ∧ w = w' := by
  unfold maxLen at hl
  have HC := Lib.hid hc
  have HS := Lib.hid hs
  clear hc hs
  obtain ⟨n, hn⟩ : ∃ n, n = ss.length := ⟨_, rfl⟩
  rw [← hn] at hl ⊢
  have HN := Lib.hid hn
  clear hn
  go_enter Tryd.func68, Tryd.ntmps68
  go_wp2
  go_loop [3, 9] (fun a i => ∃ k : Nat, k ≤ n ∧ i = .int .i64 k ∧ a = .int .u32 (sumR 4294967295 (flat (ss.take k)) : Nat)) (fun _ i => n - (intOf i).toNat)
  case atStart => exact ⟨0, by omega, rfl, rfl⟩
  case round =>
    obtain ⟨k, hk, rfl, rfl⟩ := hrel
    obtain ⟨x, hxs⟩ : ∃ x, x = sumR 4294967295 (flat (ss.take k)) := ⟨_, rfl⟩
    have hlt : x < 4294967296 := by rw [hxs]; exact sumR_lt (by decide) _
    rw [← hxs]
    have HX := Lib.hid hxs
    clear hxs
    by_cases hkn : k < n
    · obtain ⟨s, hs⟩ : ∃ s, s = ss.getD k ByteArray.empty := ⟨_, rfl⟩
      have hcell := HC.out k (by rw [← HN.out]; exact hkn)
      have hsz := HS.out k (by rw [← HN.out]; exact hkn)
      rw [← hs] at hcell hsz
      have hnext : sumR 4294967295 (flat (ss.take (k + 1))) = sumR x s.data.toList := by
        rw [flat_snoc ss k (by rw [← HN.out]; exact hkn), sumR_append, ← HX.out, hs]
      have HNX := Lib.hid hnext
      have HSS := Lib.hid hs
      unfold maxLen at hsz
      clear hnext hs
      go_wp2
      go_loop [3, 15] (fun a i => ∃ j : Nat, j ≤ s.size ∧ i = .int .i64 j ∧ a = .int .u32 (sumR x (s.data.toList.take j) : Nat)) (fun _ i => s.size - (intOf i).toNat)
      case atStart => exact ⟨0, by omega, rfl, rfl⟩
      case round =>
        obtain ⟨j, hj, rfl, rfl⟩ := hrel
        obtain ⟨y, hys⟩ : ∃ y, y = sumR x (s.data.toList.take j) := ⟨_, rfl⟩
        have hylt : y < 4294967296 := by rw [hys]; exact sumR_lt hlt _
        rw [← hys]
        have HY := Lib.hid hys
        clear hys
        by_cases hjn : j < s.size
        · have hnx : sumR x (s.data.toList.take (j + 1)) = feedN y s[j].toNat := by
            rw [take_snoc s j hjn, sumR_append, ← HY.out]; rfl
          have HNY := Lib.hid hnx
          clear hnx
          have hbyte : s[j].toNat < 256 := s[j].toNat_lt
          go_wp2_with (go_at_call 81; refine (feed_any _ _ _ hylt hbyte).mono ?_; rintro e w' ⟨rfl, rfl⟩)
          go_round
          case rel => exact ⟨j + 1, by omega, by go_num, by rw [HNY.out]⟩
          case measure => simp [intOf]; omega
        · have hend : y = sumR x s.data.toList := by
            rw [HY.out, List.take_of_length_le (by simp; omega)]
          have HE := Lib.hid hend
          clear hend
          go_wp2
          go_round
          case rel => exact ⟨k + 1, by omega, by go_num, by rw [HNX.out, ← HE.out]⟩
          case measure => simp [intOf]; omega
    · have hend : crcN (flat ss) = 4294967295 - x := by
        rw [crcN, HX.out, List.take_of_length_le (by rw [← HN.out]; omega)]
      have HE := Lib.hid hend
      clear hend
      go_wp2
      go_ret
      refine ⟨endInt ?_, rfl⟩
      rw [HE.out]
      exact not_u32 x hlt

def StrsAt (w : World) (v : Value) (ss : List ByteArray) : Prop :=
  (v = .slice none 0 0 ∧ ss = []) ∨ ∃ b off cap, v = .slice (some ⟨b, off, none⟩) ss.length cap ∧ ss.length ≤ maxLen ∧ (∀ i, i < ss.length → (ss.getD i ByteArray.empty).size ≤ maxLen) ∧ ∀ i, i < ss.length → w.cell? ⟨b, off + i, none⟩ = some (.string (ss.getD i ByteArray.empty))
set_option maxHeartbeats 400000 in
theorem sum_none (w : World) :
    Calls Tryd.prog 68 #[.slice none 0 0] w fun e w' => e = .returned (.int .u32 0) ∧ w = w' := by
  go_enter Tryd.func68, Tryd.ntmps68
  go_wp2
  go_loop [3, 9] (fun a i => i = .int .i64 0 ∧ a = .int .u32 4294967295) (fun _ i => 0)
  case atStart => exact ⟨rfl, rfl⟩
  case round =>
    obtain ⟨rfl, rfl⟩ := hrel
    go_wp2
    go_ret
    exact ⟨rfl, rfl⟩
theorem sum_any (v : Value) (ss : List ByteArray) (w : World) (h : StrsAt w v ss) :
    Calls Tryd.prog 68 #[v] w fun e w' => e = .returned (.int .u32 (crcN (flat ss))) ∧ w = w' := by
  rcases h with ⟨rfl, rfl⟩ | ⟨b, off, cap, rfl, hl, hs, hc⟩
  · exact (sum_none w).mono fun e w' ⟨h1, h2⟩ => ⟨h1, h2⟩
  · exact sum_some b off cap ss w hl hs hc
theorem seal_conv (w : World) (s : ByteArray) (y0 y1 y2 y3 : Int) : (convert 67 9 (.slice (some ⟨w.heap.size + 1, 0, none⟩) 4 4)).run Tryd.prog ((w.alloc (.cells #[.string s] 9)).alloc (.cells #[.int .u8 y0, .int .u8 y1, .int .u8 y2, .int .u8 y3] 150)) = .ok (.string (strOfNums [y0, y1, y2, y3])) ((w.alloc (.cells #[.string s] 9)).alloc (.cells #[.int .u8 y0, .int .u8 y1, .int .u8 y2, .int .u8 y3] 150)) := by
  refine run_convert_bytes_arg _ 67 5 Tryd.underlying67 Tryd.underlying5 (w.heap.size + 1) 0 4 4 [y0, y1, y2, y3] rfl ?_ 9 Tryd.underlying9
  intro i hi
  match i, hi with
  | 0, _ => simp [go_sem]
  | 1, _ => simp [go_sem]
  | 2, _ => simp [go_sem]
  | 3, _ => simp [go_sem]
def sumB (x : Nat) : ByteArray := strOfNums [(x : Int) % 256, (x : Int) / 256 % 256, (x : Int) / 65536 % 256, (x : Int) / 16777216 % 256]
def sealB (s : ByteArray) : ByteArray := sumB (crcN s.data.toList)
theorem flat_one (s : ByteArray) : flat [s] = s.data.toList := by simp [flat]
theorem endStr {a b : ByteArray} (h : a = b) : Ending.returned (.string a) = .returned (.string b) := congrArg (fun n => Ending.returned (.string n)) h
set_option maxHeartbeats 400000 in
theorem seal_any (s : ByteArray) (w : World) (hs : s.size ≤ maxLen) :
    Calls Tryd.prog 39 #[.string s] w fun e w' => e = .returned (.string (sealB s)) ∧ Below w.heap.size w w' := by
  go_enter Tryd.func39, Tryd.ntmps39
  go_wp2_with (go_at_call 68; refine (sum_any _ [s] _ (.inr ⟨_, _, _, rfl, by simp [maxLen], by simpa using hs, by simp⟩)).mono ?_; rintro e w' ⟨rfl, rfl⟩)
  obtain ⟨x, hx⟩ : ∃ x, x = crcN (flat [s]) := ⟨_, rfl⟩
  rw [← hx]
  have HX := Lib.hid hx
  clear hx
  have hcv := seal_conv w s
  go_rounds 5
  go_ret
  have hB : Below w.heap.size w ((w.alloc (.cells #[.string s] 9)).alloc (.cells #[.int .u8 (x % 256), .int .u8 (x / 256 % 256), .int .u8 (x / 65536 % 256), .int .u8 (x / 16777216 % 256)] 150)) := ((Below.refl _ _).alloc (Nat.le_refl _) _).alloc (by simp) _
  exact ⟨endStr (by rw [sealB, sumB, ← flat_one, ← HX.out]), hB⟩
theorem sumB_size (x : Nat) : (sumB x).size = 4 := by rw [sumB, strOfNums_size]; rfl
theorem sealB_size (s : ByteArray) : (sealB s).size = 4 := sumB_size _
set_option maxHeartbeats 400000 in
theorem Seal_any (s : ByteArray) (w : World) (hs : s.size ≤ 1000000) :
    Calls Tryd.prog 15 #[.string s] w fun e w' => e = .returned (.string (s ++ sealB s)) ∧ Below w.heap.size w w' := by
  have h4 : s.size + (sealB s).size ≤ 9223372036854775807 := by rw [sealB_size]; omega
  go_enter Tryd.func15, Tryd.ntmps15
  go_wp2_with (go_at_call 39; refine (seal_any _ _ (by unfold maxLen; omega)).mono ?_; rintro e w' ⟨rfl, hB⟩)
  go_ret
  exact ⟨rfl, hB⟩
set_option maxHeartbeats 400000 in
theorem Open_short (s : ByteArray) (w : World) (hs : s.size < 4) :
    Calls Tryd.prog 28 #[.string s] w fun e w' => e = .returned (.tuple #[.string ByteArray.empty, .int .i64 2]) ∧ Below w.heap.size w w' := by
  have h4 : (s.size : Int) - 4 < 0 := by omega
  go_enter Tryd.func28, Tryd.ntmps28
  go_wp2
  go_ret2
  exact ⟨rfl, Below.refl _ _⟩
set_option maxHeartbeats 400000 in
theorem Open_good (s : ByteArray) (w : World) (hs : 4 ≤ s.size) (hm : s.size ≤ 1000000)
    (hb : ((sealB (s.extract 0 (s.size - 4))).toList == (s.extract (s.size - 4) s.size).toList) = true) :
    Calls Tryd.prog 28 #[.string s] w fun e w' => e = .returned (.tuple #[.string (s.extract 0 (s.size - 4)), .int .i64 0]) ∧ Below w.heap.size w w' := by
  have h4 : 0 ≤ (s.size : Int) - 4 := by omega
  have h6 : ((s.size : Int) - 4).toNat = s.size - 4 := by omega
  go_enter Tryd.func28, Tryd.ntmps28
  go_wp2
  go_region_with (go_at_call 39; refine (seal_any _ _ (by simp; unfold maxLen; omega)).mono ?_; rintro e w' ⟨rfl, hB⟩)
  all_goals
    go_wp2
    go_ret2
    exact ⟨rfl, (Below.refl _ _).drew.trans hB⟩
set_option maxHeartbeats 400000 in
theorem Open_bad (s : ByteArray) (w : World) (hs : 4 ≤ s.size) (hm : s.size ≤ 1000000)
    (hb : ((sealB (s.extract 0 (s.size - 4))).toList == (s.extract (s.size - 4) s.size).toList) = false) :
    Calls Tryd.prog 28 #[.string s] w fun e w' => e = .returned (.tuple #[.string ByteArray.empty, .int .i64 5]) ∧ Below w.heap.size w w' := by
  have h4 : 0 ≤ (s.size : Int) - 4 := by omega
  have h6 : ((s.size : Int) - 4).toNat = s.size - 4 := by omega
  go_enter Tryd.func28, Tryd.ntmps28
  go_wp2
  go_region_with (go_at_call 39; refine (seal_any _ _ (by simp; unfold maxLen; omega)).mono ?_; rintro e w' ⟨rfl, hB⟩)
  all_goals
    go_wp2
    go_ret2
    exact ⟨rfl, (Below.refl _ _).drew.trans hB⟩
/-- What Open answers: the document's three cases. -/
def openT (s : ByteArray) : ByteArray := if 4 ≤ s.size then if sealB (s.extract 0 (s.size - 4)) = s.extract (s.size - 4) s.size then s.extract 0 (s.size - 4) else ByteArray.empty else ByteArray.empty
def openE (s : ByteArray) : Int := if 4 ≤ s.size then if sealB (s.extract 0 (s.size - 4)) = s.extract (s.size - 4) s.size then 0 else 5 else 2
theorem beq_bytes (a b : ByteArray) : (a.toList == b.toList) = decide (a = b) := by
  rw [Bool.eq_iff_iff, beq_iff_eq, decide_eq_true_iff, ByteArray.toList_eq, ByteArray.toList_eq]
  exact ⟨Go.WideShapes.bytes_inj, fun h => by rw [h]⟩
theorem Open_any (s : ByteArray) (w : World) (hm : s.size ≤ 1000000) :
    Calls Tryd.prog 28 #[.string s] w fun e w' => e = .returned (.tuple #[.string (openT s), .int .i64 (openE s)]) ∧ Below w.heap.size w w' := by
  unfold openT openE
  by_cases h4 : 4 ≤ s.size
  · rw [if_pos h4, if_pos h4]
    by_cases h : sealB (s.extract 0 (s.size - 4)) = s.extract (s.size - 4) s.size
    · rw [if_pos h, if_pos h]
      exact Open_good s w h4 hm (by rw [beq_bytes]; exact decide_eq_true h)
    · rw [if_neg h, if_neg h]
      exact Open_bad s w h4 hm (by rw [beq_bytes]; exact decide_eq_false h)
  · rw [if_neg h4, if_neg h4]
    exact Open_short s w (by omega)
/-- The block B of the world holds, from its first cell on, the bytes of l, and none of these cells is frozen. -/
def BytesAt (w : World) (B : Nat) (l : List UInt8) : Prop :=
  ∀ j (h : j < l.length), w.cell? ⟨B, j, none⟩ = some (.int .u8 (l[j].toNat : Int)) ∧ w.frozen? ⟨B, j, none⟩ = false
theorem conv_bytes (s : ByteArray) (w : World) : ∃ W cap, (convert 9 67 (.string s)).run Tryd.prog w = .ok (.slice (some ⟨w.heap.size, 0, none⟩) s.size cap) W ∧ Below w.heap.size w W ∧ BytesAt W w.heap.size s.data.toList ∧ w.heap.size < W.heap.size := by
  refine ⟨_, _, run_bytes_of_string w 9 67 5 s Tryd.underlying9 Tryd.underlying67 Tryd.underlying5, (Below.refl _ _).drew.alloc (by simp) _, ?_, by simp⟩
  intro j h
  have hj : j < s.data.size := by simpa using h
  refine ⟨?_, ?_⟩
  · have := World.cell?_alloc_mark w.drew (bytesRow s (grownCap w s.size 0 5)) 5 ((bytesRow s (grownCap w s.size 0 5)).size, (bytesRow s (grownCap w s.size 0 5)).size + 1) j
    simp only [World.size_drew] at this
    rw [this, bytesRow_at s _ j hj]
    simp
  · have := World.frozen?_alloc_mark w.drew (bytesRow s (grownCap w s.size 0 5)) 5 (bytesRow s (grownCap w s.size 0 5)).size ((bytesRow s (grownCap w s.size 0 5)).size + 1) j
    simp only [World.size_drew] at this
    rw [this]
    have hl : j < (bytesRow s (grownCap w s.size 0 5)).size := by simp only [bytesRow, Array.size_append, Array.size_map]; omega
    simp; omega
theorem conv_back (W : World) (B cap : Nat) (l : List UInt8) (h : BytesAt W B l) : (convert 67 9 (.slice (some ⟨B, 0, none⟩) l.length cap)).run Tryd.prog W = .ok (.string ⟨l.toArray⟩) W := by
  refine run_convert_bytes_back W 67 9 5 _ cap l Tryd.underlying67 Tryd.underlying5 Tryd.underlying9 ?_
  intro j hj
  have := (h j hj).1
  have e : (⟨B, 0, none⟩ : Addr).add j = ⟨B, j, none⟩ := by unfold Addr.add; split <;> simp_all
  rw [e]
  exact this
theorem bytes_flip {wr : World} {B p : Nat} {l : List UInt8} {y : UInt8} (hA : BytesAt wr B l) (hy : l[p / 8]? = some y) :
    BytesAt (wr.setCell ⟨B, p / 8, none⟩ (.int .u8 (bits .xor .u8 (y.toNat : Int) (2 ^ (p % 8) % 256)))).drew B (flipBit l p) := by
  have h2 : 2 ^ (p % 8) < 256 := Nat.lt_of_lt_of_le (Nat.pow_lt_pow_right (by decide) (Nat.mod_lt p (by decide))) (by decide)
  have e1 : ((2 : Int) ^ (p % 8) % 256) = ((2 ^ (p % 8) : Nat) : Int) := by
    have hi : ((2 ^ (p % 8) : Nat) : Int) < 256 := by omega
    rw [Int.natCast_pow] at hi ⊢
    exact Int.emod_eq_of_lt (Int.pow_nonneg (by decide)) hi
  have e2 : bits .xor .u8 (y.toNat : Int) (2 ^ (p % 8) % 256) = ((y ^^^ UInt8.ofNat (2 ^ (p % 8))).toNat : Int) := by
    rw [e1, u8_xor_nat _ _ y.toNat_lt h2, UInt8.toNat_xor, UInt8.toNat_ofNat', Nat.mod_eq_of_lt h2]
  rw [e2]
  have hlt : p / 8 < l.length := by
    rcases Nat.lt_or_ge (p / 8) l.length with h | h
    · exact h
    · rw [List.getElem?_eq_none h] at hy; cases hy
  have hyv : l[p / 8] = y := by rw [List.getElem?_eq_getElem hlt] at hy; exact Option.some.inj hy
  intro j hj
  have hj' : j < l.length := by rw [flipBit_len] at hj; exact hj
  refine ⟨?_, ?_⟩
  · rw [World.cell?_drew]
    by_cases h : p / 8 = j
    · subst h
      rw [World.cell?_setCell_same _ _ _ (hA _ hlt).1]
      simp [flipBit, hyv]
    · rw [World.cell?_setCell_other _ _ _ _ (by simp), (hA j hj').1]
      simp [flipBit, h]
  · rw [World.frozen?_drew, World.frozen?_setCell]
    exact (hA j hj').2
theorem bit_yes {x k : Nat} (h : x < 4294967296) (hb : x.testBit k = true) : bits BinOp.and IntKind.u32 ((x : Int) / 2 ^ k) 1 = 1 := by
  have e : ((x : Int) / 2 ^ k) = ((x / 2 ^ k : Nat) : Int) := by rw [Int.natCast_ediv, Int.natCast_pow]; rfl
  rw [e, and1_u32 _ (Nat.lt_of_le_of_lt (Nat.div_le_self _ _) h)]
  rw [Nat.testBit_eq_decide_div_mod_eq, decide_eq_true_iff] at hb
  rw [hb]; rfl
theorem bit_of {x k : Nat} (h : x < 4294967296) (hb : bits BinOp.and IntKind.u32 ((x : Int) / 2 ^ k) 1 = 1) : x.testBit k = true := by
  have e : ((x : Int) / 2 ^ k) = ((x / 2 ^ k : Nat) : Int) := by rw [Int.natCast_ediv, Int.natCast_pow]; rfl
  rw [e, and1_u32 _ (Nat.lt_of_le_of_lt (Nat.div_le_self _ _) h)] at hb
  rw [Nat.testBit_eq_decide_div_mod_eq, decide_eq_true_iff]
  omega
theorem turnK_same {l : List UInt8} {a : Int} {x k n : Nat} (hn : l.length = n) (h : ¬ (x.testBit k = true ∧ 0 ≤ a + (k : Int) ∧ a + (k : Int) < 8 * (n : Int))) : turnK l a x (k + 1) = turnK l a x k := by
  rw [turnK]
  split
  · next hc =>
      have h8 : ¬ a + (k : Int) < 8 * (n : Int) := fun h3 => h ⟨hc.1, hc.2, h3⟩
      exact flipBit_past _ _ (by rw [turnK_len]; omega)
  · rfl
theorem turnK_next {l : List UInt8} {a : Int} {x k p : Nat} (hb : x.testBit k = true) (hp : a + (k : Int) = (p : Int)) : turnK l a x (k + 1) = flipBit (turnK l a x k) p := by
  rw [turnK, if_pos ⟨hb, by omega⟩, hp, Int.toNat_natCast]
theorem no_way {a : Int} {k n : Nat} (hk : k < 32) (h1 : -9223372036854775808 ≤ a) (h2 : a ≤ 9223372036854775807) (_hn : n ≤ 1000000) (h0 : 0 ≤ wrap64 (a + (k : Int))) (hl : wrap64 ((wrap64 (a + (k : Int))).tdiv 8) < (n : Int)) : 0 ≤ a + (k : Int) ∧ a + (k : Int) < 8 * (n : Int) := by
  by_cases hm : a + (k : Int) ≤ 9223372036854775807
  · have e : wrap64 (a + (k : Int)) = a + (k : Int) := by unfold wrap64; omega
    rw [e] at h0 hl
    rw [Int.tdiv_eq_ediv_of_nonneg h0] at hl
    have e2 : wrap64 ((a + (k : Int)) / 8) = (a + (k : Int)) / 8 := by unfold wrap64; omega
    omega
  · exfalso
    have e : wrap64 (a + (k : Int)) = a + (k : Int) - 18446744073709551616 := by unfold wrap64; omega
    omega
def turnB (s : ByteArray) (a : Int) (x : Nat) : ByteArray := ⟨(turnK s.data.toList a x 32).toArray⟩
set_option maxHeartbeats 400000 in
theorem Turn_any (s : ByteArray) (a : Int) (x : Nat) (w : World) (hs : s.size ≤ 1000000) (h1 : -9223372036854775808 ≤ a) (h2 : a ≤ 9223372036854775807) (hx : x < 4294967296) :
    Calls Tryd.prog 17 #[.string s, .int .i64 a, .int .u32 x] w fun e w' => e = .returned (.string (turnB s a x)) ∧ Below w.heap.size w w' := by
  obtain ⟨W, cap, hconv, hB, hA, hsz⟩ := conv_bytes s w
  have HA := Lib.hid hA
  have HB := Lib.hid hB
  clear hA hB
  go_enter Tryd.func17, Tryd.ntmps17
  go_wp2
  clear hconv
  go_loopw [12] (fun i wr => ∃ k : Nat, k ≤ 32 ∧ i = .int .i64 k ∧ Below w.heap.size w wr ∧ w.heap.size < wr.heap.size ∧ BytesAt wr w.heap.size (turnK s.data.toList a x k)) (fun i _ => (32 - (intOf i)).toNat)
  case atStart => exact ⟨0, by omega, rfl, HB.out, hsz, HA.out⟩
  case round =>
    obtain ⟨k, hk, rfl, hB, hz, hA⟩ := hrel
    have HA' := Lib.hid hA
    have HB' := Lib.hid hB
    clear hA hB HA HB
    by_cases hk32 : k < 32
    · by_cases hcase : x.testBit k = true ∧ 0 ≤ a + (k : Int) ∧ a + (k : Int) < 8 * (s.size : Int)
      · obtain ⟨hbit, hp0, hp1⟩ := hcase
        obtain ⟨p, hp⟩ := Int.eq_ofNat_of_zero_le hp0
        have hlen : p / 8 < (turnK s.data.toList a x k).length := by rw [turnK_len]; simp only [Array.length_toList]; rw [hp] at hp1; have : s.data.size = s.size := rfl; omega
        obtain ⟨y, hy, hcell, hfr⟩ : ∃ y : UInt8, (turnK s.data.toList a x k)[p / 8]? = some y ∧ wr.cell? ⟨w.heap.size, p / 8, none⟩ = some (.int .u8 (y.toNat : Int)) ∧ wr.frozen? ⟨w.heap.size, p / 8, none⟩ = false :=
          ⟨_, List.getElem?_eq_getElem hlen, (HA'.out (p / 8) hlen).1, (HA'.out (p / 8) hlen).2⟩
        have hps : p < 8 * s.size := by omega
        have hbits : bits BinOp.and IntKind.u32 ((x : Int) / 2 ^ k) 1 = 1 := bit_yes hx hbit
        have HP := Lib.hid hbit
        clear hp0 hp1 hbit
        have HY := Lib.hid hy
        clear hy
        have HL := Lib.hid hlen
        clear hlen
        have hq : (p : Int) / 8 < (s.size : Int) := by omega
        go_wp2
        go_region
        go_wp2
        go_round
        case rel => exact ⟨k + 1, by omega, by go_num, (HB'.out.setCell (Nat.le_refl _) _).drew, by simpa using hz, by rw [turnK_next HP.out hp]; exact bytes_flip HA'.out HY.out⟩
        case measure => simp [intOf]; omega
      · have hsame := turnK_same (l := s.data.toList) (n := s.size) rfl hcase
        have HS := Lib.hid hsame
        have HC := Lib.hid hcase
        clear hsame hcase
        go_wp2
        · exfalso
          have hb : bits BinOp.and IntKind.u32 ((x : Int) / 2 ^ k) 1 = 1 := by assumption
          have h0 : 0 ≤ wrap64 (a + (k : Int)) := by assumption
          have hl : wrap64 ((wrap64 (a + (k : Int))).tdiv 8) < (s.size : Int) := by assumption
          exact HC.out ⟨bit_of hx hb, no_way hk32 h1 h2 hs h0 hl⟩
        all_goals
          go_round
          case rel => exact ⟨k + 1, by omega, by go_num, HB'.out, hz, by rw [HS.out]; exact HA'.out⟩
          case measure => simp [intOf]; omega
    · obtain rfl : k = 32 := by omega
      have ht := conv_back wr w.heap.size cap _ HA'.out
      rw [turnK_len, Array.length_toList] at ht
      change (convert 67 9 (.slice (some ⟨w.heap.size, 0, none⟩) s.size cap)).run Tryd.prog wr = _ at ht
      go_wp2
      go_ret
      exact ⟨rfl, HB'.out⟩
end Go.Proofs.YtodajejjhfpdmaaDoor
