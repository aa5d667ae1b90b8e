/-
  The law JournalRefuses: the walk.
-/
import Derived.Test.YtobmfbafjpbkoaaJrnF
namespace Go.Proofs.Ytobmfbafjpbkoaa
open Go.RowKit Go.Instr

theorem zeros_zero : zeros 0 = ⟨#[]⟩ := rfl
theorem crash_all {s : ByteArray} : (⟨s.extract 0 (crashN (⟨s, s.size, true⟩ : Dk) 0), crashN (⟨s, s.size, true⟩ : Dk) 0, false⟩ : Dk) = ⟨s, s.size, false⟩ := by
  have e : crashN (⟨s, s.size, true⟩ : Dk) 0 = s.size := by unfold crashN; simp
  rw [e, ext_all]
set_option maxHeartbeats 4000000 in
set_option maxRecDepth 100000 in
theorem refuses_walk (n z : Nat) (l0 : List ByteArray) (h0 : l0 = []) (r0 : Recs l0 0 0) (w : World) (hn : n < 65536) (hz : n % 600 = z) : Calls Try.prog 7 #[.int .u16 n] w fun e w' => e = .returned (.bool true) ∧ Below w.heap.size w w' := by
  have e0 : (⟨ByteArray.empty, 0, true⟩ : Dk) = ⟨frs l0, 0, true⟩ := by rw [h0, frs_nil]
  have E0 := Lib.hid e0
  have R0 := Lib.hid r0
  have hz6 : z < 600 := by omega
  obtain ⟨cm, hmk, hcv⟩ := make_zeros z (by omega)
  have HMK := Lib.hid hmk
  have HCV := Lib.hid hcv
  clear e0 r0 h0 hmk hcv
  have hzi : (n : Int) % 600 = (z : Int) := by omega
  have HZI := Lib.hid hzi
  clear hzi
  go_enter Try.func7, Try.ntmps7
  go_upto_region 6 with (first
    | (go_at_call 22; (refine (speaks10 _).mono ?_); rintro en w0 ⟨rfl, hB0⟩; have HB0 := Lib.hid hB0; clear hB0)
    | (go_at_call 9; (refine (New_disk _).mono ?_); rintro en w1 ⟨rfl, hA1, hB1, hz1⟩; have HD1 : Hid (DiskAt w1 w0.heap.size w0.heap.size ⟨frs l0, 0, true⟩) := Lib.hid (E0.out ▸ hA1); have HB1 := Lib.hid (m_below_on HB0.out hB1); have HZ1 := Lib.hid hz1; clear hA1 hB1 hz1)
    | (go_at_call 25; (refine (Open_is (l := l0) HD1.out (Nat.le_refl _) (Nat.zero_le _) R0.out.ok (by rw [R0.out.size]; decide)).mono ?_); rintro en w2 ⟨J, rfl, hJ2, hD2, hB2, hK2, hz2⟩; have HJ2 := Lib.hid hJ2; have HD2 := Lib.hid hD2; have HB2 := Lib.hid (HB1.out.trans (hB2.mono HB0.out.size)); clear hJ2 hD2 hB2 hK2 hz2))
  rw [HZI.out]
  have hmk2 := HMK.out w2
  have hcv2 := HCV.out w2
  have BA : Hid (Below w2.heap.size w2 (w2.alloc (.cells cm 5))) := Lib.hid (by go_grown)
  have hcase : z = 0 ∨ 512 < z ∨ (1 ≤ z ∧ z ≤ 512) := by omega
  rcases hcase with hz0 | hzl | ⟨hz1, hz512⟩
  · have hze : zeros z = ⟨#[]⟩ := by rw [hz0]; rfl
    rw [hze] at hcv2
    have d1 : ((z : Int) == 0) = true := by simp; omega
    have d2 : decide (512 < (z : Int)) = false := by simp; omega
    have d2' : decide (512 < z) = false := by simp; omega
    clear hze hz0
    have HLEN := Lib.hid R0.out.len
    have HK : Hid ((⟨frs l0, (frs l0).size, true⟩ : Dk).ok) := Lib.hid ⟨Nat.le_refl _, by show (frs l0).size ≤ _; rw [R0.out.size]; decide⟩
    obtain ⟨l, hl⟩ : ∃ l, l = l0 := ⟨_, rfl⟩
    rw [← hl] at HLEN HK HJ2 HD2
    clear hl
    go_wp2_with (first
      | (go_at_call 25; (with_reducible refine (Open_nil _).mono ?_); rintro en w9 ⟨rfl, rfl⟩)
      | (go_at_call 28; (with_reducible refine (Add_nil _).mono ?_); rintro en w9 ⟨rfl, rfl⟩)
      | (go_at_call 27; (with_reducible refine (Records_nil _).mono ?_); rintro en w9 ⟨rfl, rfl⟩)
      | (go_at_call 28; (with_reducible refine (Add_empty _).mono ?_); rintro en w3 ⟨rfl, h3⟩; subst h3; have HJ3 := Lib.hid (HJ2.out.on (w1 := w2.alloc (.cells cm 5)) (by go_grown)); have HD3 := Lib.hid (HD2.out.on (w1 := w2.alloc (.cells cm 5)) (by go_grown)); have HB3 := Lib.hid (m_below_on HB2.out (w2 := w2.alloc (.cells cm 5)) (by go_grown)))
      | (go_at_call 27; (refine (Records_any HJ3.out (by rw [HLEN.out]; decide)).mono ?_); rintro en w4 ⟨v4, rfl, hO4, hB4⟩; obtain ⟨a4, c4, hv4⟩ := hO4.at.len; rw [HLEN.out] at hv4; subst hv4; have HJ4 := Lib.hid (HJ3.out.on hB4); have HD4 := Lib.hid (HD3.out.on hB4); have HB4 := Lib.hid (m_below_on HB3.out hB4); clear hO4 hB4)
      | (go_at_call 27; (refine (Records_any HJ8.out (by rw [HLEN.out]; decide)).mono ?_); rintro en w10 ⟨v9, rfl, hO9, hB9⟩; obtain ⟨a9, c9, hv9⟩ := hO9.at.len; rw [HLEN.out] at hv9; subst hv9; have HB10 := Lib.hid (m_below_on HB8.out hB9); clear hO9 hB9)
      | (go_at_call 14; (with_reducible refine (Crash_on 0 HD4.out (Nat.le_refl _) HK.out rfl (by decide) (by decide)).mono ?_); rintro en w5 ⟨rfl, hD5, hB5, hK5⟩; have HD5 : Hid (DiskAt w5 w0.heap.size w0.heap.size ⟨frs l, (frs l).size, false⟩) := Lib.hid (crash_all ▸ hD5); have HJ5 := Lib.hid (HJ4.out.kept hK5); have HB5 := Lib.hid (HB4.out.trans (hB5.mono HB0.out.size)); clear hD5 hB5 hK5)
      | (go_at_call 25; (with_reducible refine (Open_off HD5.out rfl).mono ?_); rintro en w6 ⟨rfl, rfl⟩)
      | (go_at_call 28; (with_reducible refine (Add_failed ⟨#[97]⟩ HJ8.out okA).mono ?_); rintro en w9 ⟨rfl, rfl⟩)
      | (go_at_call 28; (with_reducible refine (Add_off ⟨#[97]⟩ HJ5.out HD5.out rfl okA).mono ?_); rintro en w7 ⟨rfl, hJ7, hD7, hB7⟩; have HJ7 := Lib.hid hJ7; have HD7 := Lib.hid hD7; have HB7 := Lib.hid (HB5.out.trans (hB7.mono (by have := HB0.out.size; have := HZ1.out; omega))); clear hJ7 hD7 hB7)
      | (go_at_call 16; (with_reducible refine (Start_any HD7.out (Nat.le_refl _)).mono ?_); rintro en w8 ⟨rfl, hD8, hB8, hK8⟩; have HJ8 := Lib.hid (HJ7.out.kept hK8); have HB8 := Lib.hid (HB7.out.trans (hB8.mono HB0.out.size)); clear hD8 hB8 hK8))
    go_ret
    exact ⟨rfl, HB10.out⟩
  · have HZS : Hid (512 < (zeros z).size) := Lib.hid (by rw [zeros_size]; exact hzl)
    have d1 : ((z : Int) == 0) = false := by simp; omega
    have d2 : decide (512 < (z : Int)) = true := by simp; omega
    have d2' : decide (512 < z) = true := by simp; omega
    have HLEN := Lib.hid R0.out.len
    have HK : Hid ((⟨frs l0, (frs l0).size, true⟩ : Dk).ok) := Lib.hid ⟨Nat.le_refl _, by show (frs l0).size ≤ _; rw [R0.out.size]; decide⟩
    obtain ⟨l, hl⟩ : ∃ l, l = l0 := ⟨_, rfl⟩
    rw [← hl] at HLEN HK HJ2 HD2
    clear hl
    go_wp2_with (first
      | (go_at_call 25; (with_reducible refine (Open_nil _).mono ?_); rintro en w9 ⟨rfl, rfl⟩)
      | (go_at_call 28; (with_reducible refine (Add_nil _).mono ?_); rintro en w9 ⟨rfl, rfl⟩)
      | (go_at_call 27; (with_reducible refine (Records_nil _).mono ?_); rintro en w9 ⟨rfl, rfl⟩)
      | (go_at_call 28; (with_reducible refine (Add_long _ _ HZS.out).mono ?_); rintro en w3 ⟨rfl, h3⟩; subst h3; have HJ3 := Lib.hid (HJ2.out.on (w1 := w2.alloc (.cells cm 5)) (by go_grown)); have HD3 := Lib.hid (HD2.out.on (w1 := w2.alloc (.cells cm 5)) (by go_grown)); have HB3 := Lib.hid (m_below_on HB2.out (w2 := w2.alloc (.cells cm 5)) (by go_grown)))
      | (go_at_call 27; (refine (Records_any HJ3.out (by rw [HLEN.out]; decide)).mono ?_); rintro en w4 ⟨v4, rfl, hO4, hB4⟩; obtain ⟨a4, c4, hv4⟩ := hO4.at.len; rw [HLEN.out] at hv4; subst hv4; have HJ4 := Lib.hid (HJ3.out.on hB4); have HD4 := Lib.hid (HD3.out.on hB4); have HB4 := Lib.hid (m_below_on HB3.out hB4); clear hO4 hB4)
      | (go_at_call 27; (refine (Records_any HJ8.out (by rw [HLEN.out]; decide)).mono ?_); rintro en w10 ⟨v9, rfl, hO9, hB9⟩; obtain ⟨a9, c9, hv9⟩ := hO9.at.len; rw [HLEN.out] at hv9; subst hv9; have HB10 := Lib.hid (m_below_on HB8.out hB9); clear hO9 hB9)
      | (go_at_call 14; (with_reducible refine (Crash_on 0 HD4.out (Nat.le_refl _) HK.out rfl (by decide) (by decide)).mono ?_); rintro en w5 ⟨rfl, hD5, hB5, hK5⟩; have HD5 : Hid (DiskAt w5 w0.heap.size w0.heap.size ⟨frs l, (frs l).size, false⟩) := Lib.hid (crash_all ▸ hD5); have HJ5 := Lib.hid (HJ4.out.kept hK5); have HB5 := Lib.hid (HB4.out.trans (hB5.mono HB0.out.size)); clear hD5 hB5 hK5)
      | (go_at_call 25; (with_reducible refine (Open_off HD5.out rfl).mono ?_); rintro en w6 ⟨rfl, rfl⟩)
      | (go_at_call 28; (with_reducible refine (Add_failed ⟨#[97]⟩ HJ8.out okA).mono ?_); rintro en w9 ⟨rfl, rfl⟩)
      | (go_at_call 28; (with_reducible refine (Add_off ⟨#[97]⟩ HJ5.out HD5.out rfl okA).mono ?_); rintro en w7 ⟨rfl, hJ7, hD7, hB7⟩; have HJ7 := Lib.hid hJ7; have HD7 := Lib.hid hD7; have HB7 := Lib.hid (HB5.out.trans (hB7.mono (by have := HB0.out.size; have := HZ1.out; omega))); clear hJ7 hD7 hB7)
      | (go_at_call 16; (with_reducible refine (Start_any HD7.out (Nat.le_refl _)).mono ?_); rintro en w8 ⟨rfl, hD8, hB8, hK8⟩; have HJ8 := Lib.hid (HJ7.out.kept hK8); have HB8 := Lib.hid (HB7.out.trans (hB8.mono HB0.out.size)); clear hD8 hB8 hK8))
    go_ret
    exact ⟨rfl, HB10.out⟩
  · have HOKZ : Hid (okR (zeros z)) := Lib.hid ⟨by rw [zeros_size]; exact hz1, by rw [zeros_size]; exact hz512⟩
    have HSZ : Hid ((frs l0).size + ((zeros z).size + 6) ≤ 1048576) := Lib.hid (by rw [R0.out.size, zeros_size]; omega)
    have HL0 : Hid (l0.length ≤ 1000000) := Lib.hid (by rw [R0.out.len]; decide)
    have HZB : Hid (w0.heap.size ≤ w1.heap.size) := Lib.hid (by have := HZ1.out; omega)
    obtain ⟨l, hll⟩ : ∃ l, l = l0 ++ [zeros z] := ⟨_, rfl⟩
    have r1 : Recs l 1 (0 + (z + 6)) := by rw [hll]; exact R0.out.snoc HOKZ.out (zeros_size z)
    have HLL := Lib.hid hll
    have HLEN := Lib.hid r1.len
    have HK : Hid ((⟨frs l, (frs l).size, true⟩ : Dk).ok) := Lib.hid ⟨Nat.le_refl _, by show (frs l).size ≤ _; rw [r1.size]; omega⟩
    clear hll r1
    have d1 : ((z : Int) == 0) = false := by simp; omega
    have d2 : decide (512 < (z : Int)) = false := by simp; omega
    have d2' : decide (512 < z) = false := by simp; omega
    go_wp2_with (first
      | (go_at_call 25; (with_reducible refine (Open_nil _).mono ?_); rintro en w9 ⟨rfl, rfl⟩)
      | (go_at_call 28; (with_reducible refine (Add_nil _).mono ?_); rintro en w9 ⟨rfl, rfl⟩)
      | (go_at_call 27; (with_reducible refine (Records_nil _).mono ?_); rintro en w9 ⟨rfl, rfl⟩)
      | (go_at_call 28; (with_reducible refine (Add_is (zeros z) (HJ2.out.on (w1 := w2.alloc (.cells cm 5)) BA.out) (HD2.out.on (w1 := w2.alloc (.cells cm 5)) BA.out) (Nat.le_refl _) HZB.out (Nat.le_refl _) HOKZ.out HSZ.out HL0.out).mono ?_); rintro en w3 ⟨rfl, hJ3, hD3, hB3, _⟩; rw [← HLL.out] at hJ3 hD3; have HJ3 := Lib.hid hJ3; have HD3 := Lib.hid hD3; have HB3 := Lib.hid ((m_below_on HB2.out BA.out).trans (hB3.mono HB0.out.size)); clear hJ3 hD3 hB3)
      | (go_at_call 27; (refine (Records_any HJ3.out (by rw [HLEN.out]; decide)).mono ?_); rintro en w4 ⟨v4, rfl, hO4, hB4⟩; obtain ⟨a4, c4, hv4⟩ := hO4.at.len; rw [HLEN.out] at hv4; subst hv4; have HJ4 := Lib.hid (HJ3.out.on hB4); have HD4 := Lib.hid (HD3.out.on hB4); have HB4 := Lib.hid (m_below_on HB3.out hB4); clear hO4 hB4)
      | (go_at_call 27; (refine (Records_any HJ8.out (by rw [HLEN.out]; decide)).mono ?_); rintro en w10 ⟨v9, rfl, hO9, hB9⟩; obtain ⟨a9, c9, hv9⟩ := hO9.at.len; rw [HLEN.out] at hv9; subst hv9; have HB10 := Lib.hid (m_below_on HB8.out hB9); clear hO9 hB9)
      | (go_at_call 14; (with_reducible refine (Crash_on 0 HD4.out (Nat.le_refl _) HK.out rfl (by decide) (by decide)).mono ?_); rintro en w5 ⟨rfl, hD5, hB5, hK5⟩; have HD5 : Hid (DiskAt w5 w0.heap.size w0.heap.size ⟨frs l, (frs l).size, false⟩) := Lib.hid (crash_all ▸ hD5); have HJ5 := Lib.hid (HJ4.out.kept hK5); have HB5 := Lib.hid (HB4.out.trans (hB5.mono HB0.out.size)); clear hD5 hB5 hK5)
      | (go_at_call 25; (with_reducible refine (Open_off HD5.out rfl).mono ?_); rintro en w6 ⟨rfl, rfl⟩)
      | (go_at_call 28; (with_reducible refine (Add_failed ⟨#[97]⟩ HJ8.out okA).mono ?_); rintro en w9 ⟨rfl, rfl⟩)
      | (go_at_call 28; (with_reducible refine (Add_off ⟨#[97]⟩ HJ5.out HD5.out rfl okA).mono ?_); rintro en w7 ⟨rfl, hJ7, hD7, hB7⟩; have HJ7 := Lib.hid hJ7; have HD7 := Lib.hid hD7; have HB7 := Lib.hid (HB5.out.trans (hB7.mono (by have := HB0.out.size; have := HZ1.out; omega))); clear hJ7 hD7 hB7)
      | (go_at_call 16; (with_reducible refine (Start_any HD7.out (Nat.le_refl _)).mono ?_); rintro en w8 ⟨rfl, hD8, hB8, hK8⟩; have HJ8 := Lib.hid (HJ7.out.kept hK8); have HB8 := Lib.hid (HB7.out.trans (hB8.mono HB0.out.size)); clear hD8 hB8 hK8))
    go_ret
    exact ⟨rfl, HB10.out⟩
end Go.Proofs.Ytobmfbafjpbkoaa
