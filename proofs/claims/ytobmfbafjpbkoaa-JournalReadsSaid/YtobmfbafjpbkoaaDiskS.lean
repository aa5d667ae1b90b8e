/-
  The first lines of the laws of layer 9 ('speaks').
-/
import Derived.Test.YtobmfbafjpbkoaaDiskR
namespace Go.Proofs.Ytobmfbafjpbkoaa
open Go.RowKit Go.Instr

def dB1 : Dk := ⟨ByteArray.empty, 0, true⟩
def dB2 : Dk := ⟨⟨#[97, 98]⟩, 0, true⟩
def dB3 : Dk := ⟨⟨#[97, 98]⟩, 2, true⟩
def dB4 : Dk := ⟨⟨#[97, 98, 99, 100, 101]⟩, 2, true⟩
def dB5 : Dk := ⟨⟨#[97, 98, 99]⟩, 3, false⟩
def dB6 : Dk := ⟨⟨#[97, 98, 99]⟩, 3, true⟩
theorem dk_eq {a b : Dk} (h1 : a.s = b.s) (h2 : a.d = b.d) (h3 : a.on = b.on) : a = b := by
  cases a; cases b; simp_all
theorem dE2 : (⟨dB1.s ++ ⟨#[97, 98]⟩, dB1.d, true⟩ : Dk) = dB2 := dk_eq (by decide +kernel) rfl rfl
theorem dE3 : (⟨dB2.s, dB2.s.size, true⟩ : Dk) = dB3 := rfl
theorem dE4 : (⟨dB3.s ++ ⟨#[99, 100, 101]⟩, dB3.d, true⟩ : Dk) = dB4 := dk_eq (by decide +kernel) rfl rfl
theorem dE5 : (⟨dB4.s.extract 0 (crashN dB4 1), crashN dB4 1, false⟩ : Dk) = dB5 := dk_eq (by decide +kernel) (by decide +kernel) rfl
theorem DiskP.is {base B : Nat} {w : World} {v : Value} {k k' : Dk} {e : Ending} {w' : World} (h : DiskP base B w v k e w') (hk : k = k') : DiskP base B w v k' e w' := by subst hk; exact h
theorem Read_is {w : World} {base B : Nat} {k : Dk} (s : ByteArray) (h : DiskAt w base B k) (ho : k.on = true) (hs : k.s = s) : Calls Try.prog 20 #[.pointer (some ⟨B, 0, none⟩)] w fun e w' => e = .returned (.tuple #[.string s, .int .i64 0]) ∧ w = w' := by
  subst hs; exact Read_on h ho
theorem On_is {w : World} {base B : Nat} {k : Dk} (b : Bool) (h : DiskAt w base B k) (hb : k.on = b) : Calls Try.prog 21 #[.pointer (some ⟨B, 0, none⟩)] w fun e w' => e = .returned (.bool b) ∧ w = w' := by
  subst hb; exact On_any h
set_option maxHeartbeats 1000000 in
theorem speaks9 (w : World) : Calls Try.prog 8 #[] w fun e w' => e = .returned (.bool true) ∧ Below w.heap.size w w' := by
  go_enter Try.func8, Try.ntmps8
  go_wp2_with (first
    | (go_at_call 9; (refine (New_disk _).mono ?_); rintro en w1 ⟨rfl, hA1, hB1, hz1⟩; have HA1 : Hid (DiskAt w1 w.heap.size w.heap.size dB1) := Lib.hid hA1; have HB1 := Lib.hid hB1; clear hA1 hB1 hz1)
    | (go_at_call 18; (refine (Append_good ⟨#[99, 100, 101]⟩ HA3.out (Nat.le_refl _) (by decide) rfl (by decide)).mono ?_); rintro en w4 ⟨rfl, hA4, hB4, _⟩; have HA4 : Hid (DiskAt w4 w.heap.size w.heap.size dB4) := Lib.hid (dE4 ▸ hA4); have HB4 := Lib.hid (HB3.out.trans hB4); clear hA4 hB4)
    | (go_at_call 18; (refine (Append_good ⟨#[97, 98]⟩ HA1.out (Nat.le_refl _) (by decide) rfl (by decide)).mono ?_); rintro en w2 ⟨rfl, hA2, hB2, _⟩; have HA2 : Hid (DiskAt w2 w.heap.size w.heap.size dB2) := Lib.hid (dE2 ▸ hA2); have HB2 := Lib.hid (HB1.out.trans hB2); clear hA2 hB2)
    | (go_at_call 10; (refine (Sync_on HA2.out (Nat.le_refl _) (by decide) rfl).mono ?_); rintro en w3 ⟨rfl, hA3, hB3, _⟩; have HA3 : Hid (DiskAt w3 w.heap.size w.heap.size dB3) := Lib.hid (dE3 ▸ hA3); have HB3 := Lib.hid (HB2.out.trans hB3); clear hA3 hB3)
    | (go_at_call 14; (refine (Crash_on 1 HA4.out (Nat.le_refl _) (by decide) rfl (by decide) (by decide)).mono ?_); rintro en w5 ⟨rfl, hA5, hB5, _⟩; have HA5 : Hid (DiskAt w5 w.heap.size w.heap.size dB5) := Lib.hid (dE5 ▸ hA5); have HB5 := Lib.hid (HB4.out.trans hB5); clear hA5 hB5)
    | (go_at_call 16; (refine (Start_any HA5.out (Nat.le_refl _)).mono ?_); rintro en w6 ⟨rfl, hA6, hB6, _⟩; have HA6 : Hid (DiskAt w6 w.heap.size w.heap.size dB6) := Lib.hid hA6; have HB6 := Lib.hid (HB5.out.trans hB6); clear hA6 hB6)
    | (go_at_call 20; (refine (Read_is ⟨#[97, 98, 99]⟩ HA6.out rfl rfl).mono ?_); rintro en w7 ⟨rfl, rfl⟩)
    | (go_at_call 21; (refine (On_is true HA6.out rfl).mono ?_); rintro en w7 ⟨rfl, rfl⟩)
    | (go_at_call 21; (refine (On_is false HA5.out rfl).mono ?_); rintro en w7 ⟨rfl, rfl⟩))
  go_ret
  exact ⟨rfl, HB6.out⟩
end Go.Proofs.Ytobmfbafjpbkoaa
