/-
  Numbers and their texts: what ParseInt reads, what FormatInt writes, what the reference reads; no program.
-/
import Derived.Lib.ItoaNum
import Derived.Lib.ItoaMem
import Derived.Lib.AtoiAll
import Derived.Lib.ParseIntBTie
namespace Go.Proofs.YtegjgdiollafkaaDoor
open Go.Lib
theorem decDigits_ne (u : Nat) : decDigits u ≠ [] := by
  rw [decDigits]; split <;> simp
theorem decDigits_step (u : Nat) (h : ¬ u < 10) : decDigits u = decDigits (u / 10) ++ [UInt8.ofNat (48 + u % 10)] := by
  rw [decDigits, dif_neg h]
theorem decDigits_one (u : Nat) (h : u < 10) : decDigits u = [UInt8.ofNat (48 + u)] := by
  rw [decDigits, dif_pos h]
theorem digit_nat (d : Nat) (h : d < 10) : (UInt8.ofNat (48 + d)).toNat = 48 + d := by
  rw [UInt8.toNat_ofNat', Nat.mod_eq_of_lt (by omega)]
theorem parse_snoc (l : List UInt8) (c : UInt8) : ∀ acc, parseUint10 acc (l ++ [c]) = match parseUint10 acc l with | .ok v => parseUint10 v [c] | x => x := by
  induction l with
  | nil => intro acc; rfl
  | cons a l ih =>
    intro acc
    simp only [List.cons_append, parseUint10]
    split
    · split
      · rfl
      · split
        · rfl
        · exact ih _
    · rfl
theorem parse_digits (u : Nat) (h : u < 18446744073709551616) : parseUint10 0 (decDigits u) = .ok u := by
  induction u using Nat.strongRecOn with
  | ind u ih =>
    by_cases hu : u < 10
    · rw [decDigits_one u hu]
      simp only [parseUint10]
      rw [digit_nat u hu, if_pos (by omega), if_neg (by omega), if_neg (by omega)]
      congr 1; omega
    · rw [decDigits_step u hu, parse_snoc, ih (u / 10) (by omega) (by omega)]
      simp only [parseUint10]
      rw [digit_nat (u % 10) (by omega), if_pos (by omega), if_neg (by omega), if_neg (by omega)]
      congr 1; omega
theorem head_digits (u : Nat) : ∃ c r, decDigits u = c :: r ∧ 48 ≤ c.toNat ∧ c.toNat ≤ 57 := by
  induction u using Nat.strongRecOn with
  | ind u ih =>
    by_cases hu : u < 10
    · exact ⟨_, _, decDigits_one u hu, by rw [digit_nat u hu]; omega⟩
    · obtain ⟨c, r, h1, h2⟩ := ih (u / 10) (by omega)
      exact ⟨c, r ++ [UInt8.ofNat (48 + u % 10)], by rw [decDigits_step u hu, h1]; rfl, h2⟩
def in64 (n : Int) : Prop := -9223372036854775808 ≤ n ∧ n ≤ 9223372036854775807
theorem atoi_itoa (n : Int) (h : in64 n) : atoiAll (itoa n) = .ok n := by
  obtain ⟨h0, h1⟩ := h
  by_cases hn : n < 0
  · obtain ⟨u, rfl⟩ : ∃ u : Nat, n = -(u : Int) := ⟨n.natAbs, by omega⟩
    rw [itoa_neg u (by omega)]
    unfold atoiAll
    simp only
    rw [if_pos (Or.inr (by decide)), parseMag, if_neg (decDigits_ne u), parse_digits u (by omega)]
    simp only
    rw [if_neg (by simp), if_neg (by omega)]
    simp
  · obtain ⟨u, rfl⟩ : ∃ u : Nat, n = (u : Int) := ⟨n.toNat, by omega⟩
    rw [itoa_nonneg]
    obtain ⟨c, r, hc, h2, h3⟩ := head_digits u
    have hp := parse_digits u (by omega)
    rw [hc] at hp ⊢
    unfold atoiAll
    simp only
    rw [if_neg (by omega), parseMag, if_neg (by simp), hp]
    simp only
    rw [if_neg (by omega), if_neg (by omega), if_neg (by omega)]
/-- The reference's digits, read below 0: what stands behind the sign. -/
def negParse (n : Int) : List UInt8 → Option Int
  | [] => some n
  | c :: r =>
    if c.toNat < 48 ∨ 57 < c.toNat then none
    else if n < -922337203685477580 ∨ (n = -922337203685477580 ∧ 8 < (c.toNat : Int) - 48) then none
    else negParse (10 * n - ((c.toNat : Int) - 48)) r
theorem neg_snoc (l : List UInt8) (c : UInt8) : ∀ n, negParse n (l ++ [c]) = (negParse n l).bind fun m => negParse m [c] := by
  induction l with
  | nil => intro n; rfl
  | cons a l ih =>
    intro n
    simp only [List.cons_append, negParse]
    split
    · rfl
    · split
      · rfl
      · exact ih _
theorem neg_digits (u : Nat) (h : u ≤ 9223372036854775808) : negParse 0 (decDigits u) = some (-(u : Int)) := by
  induction u using Nat.strongRecOn with
  | ind u ih =>
    by_cases hu : u < 10
    · rw [decDigits_one u hu]
      simp only [negParse]
      rw [digit_nat u hu, if_neg (by omega), if_neg (by omega)]
      congr 1; omega
    · rw [decDigits_step u hu, neg_snoc, ih (u / 10) (by omega) (by omega)]
      simp only [Option.bind_some, negParse]
      rw [digit_nat (u % 10) (by omega), if_neg (by omega), if_neg (by omega)]
      congr 1; omega
theorem digits_len (k : Nat) : ∀ u : Nat, u < 10 ^ (k + 1) → (decDigits u).length ≤ k + 1 := by
  induction k with
  | zero => intro u h; rw [decDigits_one u (by simpa using h)]; simp
  | succ k ih =>
    intro u h
    by_cases hu : u < 10
    · rw [decDigits_one u hu]; simp
    · rw [decDigits_step u hu, List.length_append]
      have := ih (u / 10) (Nat.div_lt_of_lt_mul (by rw [Nat.pow_succ, Nat.mul_comm] at h; exact h))
      simp; omega
/-- The number that a text is, as it is written. -/
def refNum (l : List UInt8) : Option Int :=
  match l with
  | [] => none
  | c :: r =>
    if c.toNat = 45 then (if r = [] ∨ 19 < r.length then none else negParse 0 r)
    else if 19 < l.length then none else (negParse 0 l).bind fun n => if n = -9223372036854775808 then none else some (-n)
theorem ref_itoa (n : Int) (h : in64 n) : refNum (itoa n) = some n := by
  obtain ⟨h0, h1⟩ := h
  by_cases hn : n < 0
  · obtain ⟨u, rfl⟩ : ∃ u : Nat, n = -(u : Int) := ⟨n.natAbs, by omega⟩
    rw [itoa_neg u (by omega)]
    unfold refNum
    have hl := digits_len 18 u (by omega)
    simp only
    rw [if_pos (by decide), if_neg (by rintro (h | h); exact decDigits_ne u h; omega), neg_digits u (by omega)]
  · obtain ⟨u, rfl⟩ : ∃ u : Nat, n = (u : Int) := ⟨n.toNat, by omega⟩
    rw [itoa_nonneg]
    obtain ⟨c, r, hc, h2, h3⟩ := head_digits u
    have hl := digits_len 18 u (by omega)
    have hp := neg_digits u (by omega)
    rw [hc] at hp hl ⊢
    unfold refNum
    simp only
    rw [if_neg (by omega), if_neg (by omega), hp]
    simp only [Option.bind_some]
    rw [if_neg (by omega)]
    congr 1; omega
/-- The number of a text, if it is written as that number's text is. -/
def numO (l : List UInt8) : Option Int :=
  match atoiAll l with
  | .ok n => if itoa n = l then some n else none
  | _ => none
theorem numO_itoa (n : Int) (h : in64 n) : numO (itoa n) = some n := by
  unfold numO
  rw [atoi_itoa n h]
  simp
theorem atoi_in {l : List UInt8} {n : Int} (h : atoiAll l = .ok n) : in64 n := by
  rw [← parseIntB_64] at h
  have := parseIntB_bounds h
  unfold in64
  omega
theorem numO_some {l : List UInt8} {n : Int} (h : numO l = some n) : itoa n = l ∧ in64 n := by
  unfold numO at h
  split at h
  · next m hm =>
    split at h
    · next he =>
      simp only [Option.some.injEq] at h
      subst h
      exact ⟨he, atoi_in hm⟩
    · cases h
  · cases h
theorem numO_ref {l : List UInt8} {n : Int} (_h : refNum l = some n) (hn : in64 n) : (itoa n = l ↔ numO l = some n) := by
  constructor
  · intro he
    rw [← he]; exact numO_itoa n hn
  · intro he
    exact (numO_some he).1
theorem numO_of_ref {l : List UInt8} {n m : Int} (h : refNum l = some n) (hm : numO l = some m) : n = m := by
  obtain ⟨h1, h2⟩ := numO_some hm
  rw [← h1, ref_itoa m h2] at h
  simpa using h.symm
theorem numO_no_ref {l : List UInt8} (h : refNum l = none) : numO l = none := by
  cases hm : numO l with
  | none => rfl
  | some m =>
    obtain ⟨h1, h2⟩ := numO_some hm
    rw [← h1, ref_itoa m h2] at h
    cases h
end Go.Proofs.YtegjgdiollafkaaDoor
