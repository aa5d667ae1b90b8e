/-
  The walk of the reference's Turn: it returns the same text as the program's Turn, and nothing old in memory changes.
-/
import Derived.Test.YtlphlmpfjpombaaCrcA
namespace Go.Proofs.Ytlphlmpfjpombaa
open Go.RowKit Go.Instr

def refT (l : List UInt8) (a : Int) (x : Nat) : Nat → List UInt8
  | 0 => l
  | i + 1 => if hit a x 32 i = true then flipBit (refT l a x i) i else refT l a x i
theorem refT_len (l : List UInt8) (a : Int) (x k : Nat) : (refT l a x k).length = l.length := by
  induction k with
  | zero => rfl
  | succ k ih => rw [refT]; split <;> simp [flipBit_len, ih]
theorem bitAt_refT (l : List UInt8) (a : Int) (x k q : Nat) (hk : k ≤ 8 * l.length) : bitAt (refT l a x k) q = (bitAt l q ^^ (decide (q < k) && hit a x 32 q)) := by
  induction k with
  | zero => simp [refT]
  | succ k ih =>
    rw [refT]
    split
    · next hc =>
      rw [bitAt_flip _ _ _ (by rw [refT_len]; omega), ih (by omega)]
      by_cases h : q = k
      · subst h
        simp [hc]
      · have e : decide (q < k + 1) = decide (q < k) := by rw [decide_eq_decide]; omega
        simp [h, e]
    · next hc =>
      rw [ih (by omega)]
      by_cases h : q = k
      · subst h
        simp [Bool.not_eq_true _ ▸ hc]
      · have e : decide (q < k + 1) = decide (q < k) := by rw [decide_eq_decide]; omega
        rw [e]
theorem refT_all (l : List UInt8) (a : Int) (x : Nat) : refT l a x (8 * l.length) = turnK l a x 32 := by
  apply list_of_bits
  · rw [refT_len, turnK_len]
  · intro i hi
    rw [refT_len] at hi
    rw [bitAt_refT _ _ _ _ _ (Nat.le_refl _), bitAt_turnK _ _ _ _ _ hi]
    simp [hi]
theorem hit_mid {a : Int} {x k d : Nat} (hd : (k : Int) - a = (d : Int)) (h : d < 32) : hit a x 32 k = x.testBit d := by
  unfold hit
  have h1 : a ≤ (k : Int) := by omega
  have h2 : (k : Int) - a < ((32 : Nat) : Int) := by omega
  rw [decide_eq_true h1, decide_eq_true h2, hd]
  rfl
theorem bytes_put {wr : World} {B p q : Nat} {l : List UInt8} {y : UInt8} (hA : BytesAt wr B l) (hy : l[p / 8]? = some y) (hq : q = 2 ^ (p % 8)) :
    BytesAt (wr.setCell ⟨B, p / 8, none⟩ (.int .u8 (bits .xor .u8 (y.toNat : Int) q))) B (flipBit l p) := by
  have h2 : 2 ^ (p % 8) < 256 := Nat.lt_of_lt_of_le (Nat.pow_lt_pow_right (by decide) (Nat.mod_lt p (by decide))) (by decide)
  have e1 : ((2 : Int) ^ (p % 8) % 256) = ((2 ^ (p % 8) : Nat) : Int) := by
    have hi : ((2 ^ (p % 8) : Nat) : Int) < 256 := by omega
    rw [Int.natCast_pow] at hi ⊢
    exact Int.emod_eq_of_lt (Int.pow_nonneg (by decide)) hi
  have := bytes_flip hA hy
  rw [e1] at this
  rw [hq]
  intro j hj
  exact this j hj
set_option maxHeartbeats 400000 in
theorem refTurn_any (s : ByteArray) (a : Int) (x : Nat) (w : World) (hs : s.size ≤ 1000000) (_h1 : -9223372036854775808 ≤ a) (_h2 : a ≤ 9223372036854775807) (hx : x < 4294967296) :
    Calls Try.prog 34 #[.string s, .int .i64 a, .int .u32 x] w fun e w' => e = .returned (.string (turnB s a x)) ∧ Below w.heap.size w w' := by
  obtain ⟨W, cap, hconv, hB, hA, hsz⟩ := conv_bytes s w
  have HA := Lib.hid hA
  have HB := Lib.hid hB
  clear hA hB
  go_enter Try.func34, Try.ntmps34
  go_wp2
  clear hconv
  go_loopw [8] (fun i wr => ∃ k : Nat, k ≤ 8 * s.size ∧ i = .int .i64 k ∧ Below w.heap.size w wr ∧ w.heap.size < wr.heap.size ∧ BytesAt wr w.heap.size (refT s.data.toList a x k)) (fun i _ => (8 * s.size - (intOf i).toNat))
  case atStart => exact ⟨0, by omega, rfl, HB.out, hsz, HA.out⟩
  case round =>
    obtain ⟨k, hk, rfl, hB, hz, hA⟩ := hrel
    have HA' := Lib.hid hA
    have HB' := Lib.hid hB
    clear hA hB HA HB
    by_cases hk32 : k < 8 * s.size
    · by_cases hc1 : (k : Int) < a
      · have hsame : refT s.data.toList a x (k + 1) = refT s.data.toList a x k := by
          rw [refT, if_neg (by simp [hit]; omega)]
        have HS := Lib.hid hsame
        clear hsame
        go_wp2
        go_round
        case rel => exact ⟨k + 1, by omega, by go_num, HB'.out, hz, by rw [HS.out]; exact HA'.out⟩
        case measure => simp [intOf]; omega
      · by_cases hc2 : a < (k : Int) - 31
        · have hsame : refT s.data.toList a x (k + 1) = refT s.data.toList a x k := by
            rw [refT, if_neg (by simp [hit]; omega)]
          have HS := Lib.hid hsame
          clear hsame
          go_wp2
          go_round
          case rel => exact ⟨k + 1, by omega, by go_num, HB'.out, hz, by rw [HS.out]; exact HA'.out⟩
          case measure => simp [intOf]; omega
        · obtain ⟨d, hd⟩ := Int.eq_ofNat_of_zero_le (show 0 ≤ (k : Int) - a by omega)
          have hd32 : d < 32 := by omega
          obtain ⟨z, hz⟩ : ∃ z, z = x / 2 ^ d := ⟨_, rfl⟩
          have HZ := Lib.hid hz
          clear hz
          have hlen : k / 8 < (refT s.data.toList a x k).length := by
            rw [refT_len]; have : s.data.toList.length = s.size := rfl; omega
          obtain ⟨y, hy, hcell, hfr⟩ : ∃ y : UInt8, (refT s.data.toList a x k)[k / 8]? = some y ∧ wr.cell? ⟨w.heap.size, k / 8, none⟩ = some (.int .u8 (y.toNat : Int)) ∧ wr.frozen? ⟨w.heap.size, k / 8, none⟩ = false :=
            ⟨_, List.getElem?_eq_getElem hlen, (HA'.out (k / 8) hlen).1, (HA'.out (k / 8) hlen).2⟩
          have HY := Lib.hid hy
          clear hy hlen
          go_wp2
          go_loop [9, 10] (fun n i => ∃ j : Nat, j ≤ d ∧ i = .int .i64 j ∧ n = .int .u32 (x / 2 ^ j : Nat)) (fun _ i => (d - (intOf i).toNat))
          case atStart => exact ⟨0, by omega, rfl, by simp⟩
          case round =>
            obtain ⟨j, hj, rfl, rfl⟩ := hrel
            obtain ⟨v, hv⟩ : ∃ v, v = x / 2 ^ j := ⟨_, rfl⟩
            have hv2 : x / 2 ^ (j + 1) = v / 2 := by rw [hv, Nat.div_div_eq_div_mul, Nat.pow_succ]
            have hvl : v < 4294967296 := by rw [hv]; exact Nat.lt_of_le_of_lt (Nat.div_le_self _ _) hx
            rw [← hv]
            have HV := Lib.hid hv
            have HV2 := Lib.hid hv2
            clear hv hv2
            by_cases hjd : j < d
            · go_wp2
              go_round
              case rel => exact ⟨j + 1, by omega, by go_num, by rw [HV2.out]; go_num⟩
              case measure => simp [intOf]; omega
            · obtain rfl : j = d := by omega
              by_cases hbit : v % 2 = 0
              · have hsame : refT s.data.toList a x (k + 1) = refT s.data.toList a x k := by
                  rw [refT, if_neg]
                  rw [hit_mid hd hd32, Nat.testBit_eq_decide_div_mod_eq, ← HV.out]
                  simp [hbit]
                have HS := Lib.hid hsame
                clear hsame
                have hb : (v : Int) % 2 = 0 := by omega
                go_wp2
                go_round
                case rel => exact ⟨k + 1, by omega, by go_num, HB'.out, hz, by rw [HS.out]; exact HA'.out⟩
                case measure => simp [intOf]; omega
              · have hnext : refT s.data.toList a x (k + 1) = flipBit (refT s.data.toList a x k) k := by
                  rw [refT, if_pos]
                  rw [hit_mid hd hd32, Nat.testBit_eq_decide_div_mod_eq, ← HV.out]
                  simp; omega
                have HS := Lib.hid hnext
                clear hnext
                have hb : (v : Int) % 2 = 1 := by omega
                clear hbit
                have HB2 := Lib.hid hb
                go_wp2
                clear hb
                go_loop [11, 12] (fun n i => ∃ t : Nat, t ≤ k % 8 ∧ i = .int .i64 t ∧ n = .int .u8 (2 ^ t : Nat)) (fun _ i => (k % 8 - (intOf i).toNat))
                case atStart => exact ⟨0, by omega, rfl, by simp⟩
                case round =>
                  obtain ⟨t, ht, rfl, rfl⟩ := hrel
                  obtain ⟨q, hq⟩ : ∃ q, q = 2 ^ t := ⟨_, rfl⟩
                  have hq2 : 2 ^ (t + 1) = q * 2 := by rw [hq, Nat.pow_succ]
                  rw [← hq]
                  have HQ := Lib.hid hq
                  have HQ2 := Lib.hid hq2
                  clear hq hq2
                  by_cases htk : t < k % 8
                  · have hql : q < 128 := by
                      rw [HQ.out]
                      exact Nat.lt_of_lt_of_le (Nat.pow_lt_pow_right (by decide) (show t < 7 by omega)) (by decide)
                    go_wp2
                    go_round
                    case rel => exact ⟨t + 1, by omega, by go_num, by rw [HQ2.out]; go_num⟩
                    case measure => simp [intOf]; omega
                  · obtain rfl : t = k % 8 := by omega
                    go_wp2
                    go_round
                    case rel => exact ⟨k + 1, by omega, by go_num, HB'.out.setCell (Nat.le_refl _) _, by simpa using hz, by rw [HS.out]; exact bytes_put HA'.out HY.out HQ.out⟩
                    case measure => simp [intOf]; omega
    · obtain rfl : k = 8 * s.size := by omega
      have ht := conv_back wr w.heap.size cap _ HA'.out
      rw [refT_len, Array.length_toList] at ht
      change (convert 91 9 (.slice (some ⟨w.heap.size, 0, none⟩) s.size cap)).run Try.prog wr = _ at ht
      have he : (⟨(refT s.data.toList a x (8 * s.size)).toArray⟩ : ByteArray) = turnB s a x := by
        have := refT_all s.data.toList a x
        rw [show s.data.toList.length = s.size from rfl] at this
        rw [this]; rfl
      rw [he] at ht
      clear he
      go_wp2
      go_ret
      exact ⟨rfl, HB'.out⟩
end Go.Proofs.Ytlphlmpfjpombaa
