/-
  Small laws for the law OctetJoins: rows of parts that the call has made, what a reader decodes of them.
-/
import Derived.Test.YtlafpdhjknpfbaaOctJ
import Derived.Test.YtlafpdhjknpfbaaOctH
import Derived.Test.YtlafpdhjknpfbaaOctG
namespace Go.Proofs.Ytlafpdhjknpfbaa
open Go.RowKit Go.Instr

theorem Try.info30 : (Try.prog.info? 30).map (fun i => (i.zero, i.size, i.bytes)) = some (some (.agg #[.int .i64 0, .int .u64 0, .int .i64 0, .string ByteArray.empty]), 4, 40) := by kernel_rfl
theorem Try.info31 : (Try.prog.info? 31).map (fun i => (i.zero, i.size, i.bytes)) = some (some (.agg #[.int .i64 0, .int .i64 0, .int .u64 0, .string ByteArray.empty]), 4, 40) := by kernel_rfl
/-- A part of the law's argument. -/
structure LawV where
  k : Int
  z : Int
  n : Nat
  s : ByteArray
def LawV.cut (s : ByteArray) : ByteArray := if 300 < s.size then s.extract 0 300 else s
def LawV.ref (p : LawV) : RefV := ⟨kindOf p.k, p.z, p.n, LawV.cut p.s⟩
def pCells (p : PartV) : List Value := [.int .i64 p.k, .int .u64 p.n, .int .i64 p.z, .string p.s]
def qCells (q : RefV) : List Value := [.int .i64 q.k, .int .i64 q.z, .int .u64 q.n, .string q.s]
def pRow (l : List RefV) : List Value := l.flatMap fun q => pCells q.part
def qRow (l : List RefV) : List Value := l.flatMap qCells
theorem told_ref (k z : Int) (n : Nat) (s : ByteArray) (w : World) :
    Calls Try.prog 11 #[.agg #[.int .i64 k, .int .i64 z, .int .u64 n, .string s]] w fun e w' => e = .returned (.tuple #[.agg #[.int .i64 (RefV.part ⟨kindOf k, z, n, s⟩).k, .int .u64 (RefV.part ⟨kindOf k, z, n, s⟩).n, .int .i64 (RefV.part ⟨kindOf k, z, n, s⟩).z, .string (RefV.part ⟨kindOf k, z, n, s⟩).s], .agg #[.int .i64 (kindOf k), .int .i64 z, .int .u64 n, .string s]]) ∧ Below w.heap.size w w' :=
  (told_any k z n s w).mono fun _ _ ⟨h1, h2⟩ => ⟨h1, h2⟩
theorem told_is (k z : Int) (n : Nat) (s : ByteArray) (kk gk : Int) (gn : Nat) (gz : Int) (gs : ByteArray) (w : World) (hkk : kindOf k = kk) (hP : RefV.part ⟨kk, z, n, s⟩ = ⟨gk, gn, gz, gs⟩) :
    Calls Try.prog 11 #[.agg #[.int .i64 k, .int .i64 z, .int .u64 n, .string s]] w fun e w' => e = .returned (.tuple #[.agg #[.int .i64 gk, .int .u64 gn, .int .i64 gz, .string gs], .agg #[.int .i64 kk, .int .i64 z, .int .u64 n, .string s]]) ∧ Below w.heap.size w w' := by
  subst hkk
  have := told_ref k z n s w
  rw [hP] at this
  exact this
theorem news4 {w : World} {B : Nat} {v0 v1 v2 v3 : Value} (h0 : w.cell? ⟨B, 0, none⟩ = some v0) (h1 : w.cell? ⟨B, 1, none⟩ = some v1) (h2 : w.cell? ⟨B, 2, none⟩ = some v2) (h3 : w.cell? ⟨B, 3, none⟩ = some v3) :
    ∀ j u, ([v0, v1, v2, v3] : List Value)[j]? = some u → w.cell? ((⟨B, 0, none⟩ : Addr).add j) = some u := by
  intro j u hj
  have e : (⟨B, 0, none⟩ : Addr).add j = ⟨B, j, none⟩ := by unfold Addr.add; split <;> simp_all
  rw [e]
  match j, hj with
  | 0, hj => cases hj; exact h0
  | 1, hj => cases hj; exact h1
  | 2, hj => cases hj; exact h2
  | 3, hj => cases hj; exact h3
theorem cell_kept {wq wp w3 : World} {row : Option Nat} {B j : Nat} {v : Value} (hc : wq.cell? ⟨B, j, none⟩ = some v) (hb : Below wq.heap.size wq wp) (hg : wp.grownBy w3 row) (hne : some B ≠ row) : w3.cell? ⟨B, j, none⟩ = some v :=
  hg.cell ((hb.cell (p := ⟨B, j, none⟩) (World.block_lt_of_cell? _ _ hc)).trans hc) hne
theorem below_app {w wq wp w3 : World} {row : Option Nat} (h : Below w.heap.size w wq) (hp : Below wq.heap.size wq wp) (hg : wp.grownBy w3 row) (hr : ∀ j, row = some j → w.heap.size ≤ j) : Below w.heap.size w w3 :=
  (o_below_on h hp).grown hg (o_below_on h hp).size hr
theorem own_disj {w : World} {b1 b2 : Nat} {e1 e2 : TypeId} {s1 s2 : Nat} {v1 v2 : Value} {n1 n2 : Nat} {x1 x2 : List Value} (h1 : w.ownsRow b1 e1 s1 v1 n1 x1) (h2 : w.ownsRow b2 e2 s2 v2 n2 x2) (hne : e1 ≠ e2) : v1.ownBlock = none ∨ v1.ownBlock ≠ v2.ownBlock := by
  rcases h1.2 with ⟨rfl, _⟩ | ⟨g, cap, cur, rfl, _, hg, _⟩
  · exact .inl rfl
  · refine .inr fun he => ?_
    exact own_ne h2 hg (fun e => hne e.symm) (by rw [← he]; rfl)
theorem oneCells4 (v0 v1 v2 v3 : Value) (h0 : v0.oneCell' = true) (h1 : v1.oneCell' = true) (h2 : v2.oneCell' = true) (h3 : v3.oneCell' = true) : ∀ u ∈ ([v0, v1, v2, v3] : List Value), u.oneCell' = true := by
  intro u hu
  simp only [List.mem_cons, List.not_mem_nil, or_false] at hu
  rcases hu with rfl | rfl | rfl | rfl <;> assumption
theorem pRow_snoc (l : List RefV) (q : RefV) (P : PartV) (h : q.part = P) : pRow (l ++ [q]) = pRow l ++ [.int .i64 P.k, .int .u64 P.n, .int .i64 P.z, .string P.s] := by
  simp [pRow, pCells, h]
theorem qRow_snoc (l : List RefV) (q : RefV) : qRow (l ++ [q]) = qRow l ++ [.int .i64 q.k, .int .i64 q.z, .int .u64 q.n, .string q.s] := by
  simp [qRow, qCells]
theorem fine_snoc {l : List RefV} {q : RefV} (h : ∀ q ∈ l, q.fine) (hq : q.fine) : ∀ x ∈ l ++ [q], x.fine := by
  intro x hx
  rcases List.mem_append.1 hx with h1 | h1
  · exact h x h1
  · rw [List.mem_singleton.1 h1]; exact hq
theorem flat4 {α β : Type} (f : α → List β) (hf : ∀ a, (f a).length = 4) (l : List α) : ∀ (i j : Nat) (h : i < l.length), j < 4 → (l.flatMap f)[i * 4 + j]? = (f l[i])[j]? := by
  induction l with
  | nil => intro i j h; exact absurd h (Nat.not_lt_zero _)
  | cons a l ih =>
    intro i j h hj
    rw [List.flatMap_cons]
    cases i with
    | zero =>
      rw [Nat.zero_mul, Nat.zero_add, List.getElem?_append_left (by rw [hf]; exact hj)]
      rfl
    | succ i =>
      rw [List.getElem?_append_right (by rw [hf]; omega), hf, show (i + 1) * 4 + j - 4 = i * 4 + j by omega, ih i j (by simpa using h) hj]
      rfl
theorem own_cell {w : World} {base : Nat} {e : TypeId} {g k cap : Nat} {xs : List Value} {j : Nat} {v : Value} (h : w.ownsRow base e 4 (.slice (some ⟨g, 0, none⟩) k cap) k xs) (hv : xs[j]? = some v) : w.cell? ⟨g, 0 + j, none⟩ = some v := by
  have := h.cells (g := g) rfl j v hv
  have e : (⟨g, 0, none⟩ : Addr).add j = ⟨g, 0 + j, none⟩ := by unfold Addr.add; split <;> simp_all
  rw [e] at this
  exact this
theorem parts_own {w : World} {base : Nat} {v : Value} {k : Nat} {l : List RefV} (h : w.ownsRow base 30 4 v k (pRow l)) (hk : l.length = k) : PartsAt w v (parts l) := by
  have hpl : (parts l).length = l.length := by simp [parts]
  rcases h.2 with ⟨rfl, h0⟩ | ⟨g, cap, cur, rfl, _⟩
  · have : l = [] := List.eq_nil_of_length_eq_zero (by omega)
    subst this
    exact .inl ⟨rfl, rfl⟩
  · refine .inr ⟨g, 0, cap, by rw [hpl, hk], fun i hi => ?_⟩
    have hi' : i < l.length := by rw [hpl] at hi; exact hi
    have hpi : (parts l)[i] = l[i].part := by simp [parts]
    rw [hpi]
    have e : ∀ j, j < 4 → (pRow l)[i * 4 + j]? = (pCells l[i].part)[j]? := fun j hj => flat4 _ (fun _ => rfl) l i j hi' hj
    have e0 := own_cell h (e 0 (by decide))
    have e1 := own_cell h (e 1 (by decide))
    have e2 := own_cell h (e 2 (by decide))
    have e3 := own_cell h (e 3 (by decide))
    exact ⟨e0, by rw [Nat.add_assoc]; exact e1, by rw [Nat.add_assoc]; exact e2, by rw [Nat.add_assoc]; exact e3⟩
theorem refs_own {w : World} {base : Nat} {v : Value} {k : Nat} {l : List RefV} (h : w.ownsRow base 31 4 v k (qRow l)) (hk : l.length = k) : RefsAt w v l := by
  rcases h.2 with ⟨rfl, h0⟩ | ⟨g, cap, cur, rfl, _⟩
  · have : l = [] := List.eq_nil_of_length_eq_zero (by omega)
    subst this
    exact .inl ⟨rfl, rfl⟩
  · refine .inr ⟨g, 0, cap, by rw [hk], fun i hi => ?_⟩
    have e : ∀ j, j < 4 → (qRow l)[i * 4 + j]? = (qCells l[i])[j]? := fun j hj => flat4 _ (fun _ => rfl) l i j hi hj
    have e0 := own_cell h (e 0 (by decide))
    have e1 := own_cell h (e 1 (by decide))
    have e2 := own_cell h (e 2 (by decide))
    have e3 := own_cell h (e 3 (by decide))
    exact ⟨e0, by rw [Nat.add_assoc]; exact e1, by rw [Nat.add_assoc]; exact e2, by rw [Nat.add_assoc]; exact e3⟩
theorem part_fine {q : RefV} (h : q.fine) : q.part.fine := by
  obtain ⟨k, z, n, s⟩ := q
  obtain ⟨hk, hn, hs⟩ := h
  simp only at hk hn hs
  unfold RefV.part PartV.fine
  simp only
  split
  · exact ⟨by simp, Nat.zero_le _⟩
  · split
    · exact ⟨by simp, Nat.zero_le _⟩
    · exact ⟨hk, hs⟩
theorem parts_fine {l : List RefV} (h : ∀ q ∈ l, q.fine) : ∀ p ∈ parts l, p.fine := by
  intro p hp
  obtain ⟨q, hq, rfl⟩ := List.mem_map.1 hp
  exact part_fine (h q hq)
theorem join_is (v : Value) (l : List RefV) (k : Nat) (S : ByteArray) (E : Int) (base : Nat) (w : World) (ho : w.ownsRow base 30 4 v k (pRow l)) (hk : l.length = k) (hl : k ≤ 20) (hf : ∀ q ∈ l, q.fine) (hS : joinS (parts l) = S) (hE : joinE (parts l) = E) :
    Calls Try.prog 12 #[v] w fun e w' => e = .returned (.tuple #[.string S, .int .i64 E]) ∧ Below w.heap.size w w' := by
  subst hS; subst hE
  exact join_any v (parts l) w (by simp [parts]; omega) (parts_fine hf) (parts_own ho hk)
theorem refJoin_is (v : Value) (l : List RefV) (k : Nat) (S : ByteArray) (E : Int) (base : Nat) (w : World) (ho : w.ownsRow base 31 4 v k (qRow l)) (hk : l.length = k) (hl : k ≤ 20) (hf : ∀ q ∈ l, q.fine) (hS : joinS (parts l) = S) (hE : joinE (parts l) = E) :
    Calls Try.prog 13 #[v] w fun e w' => e = .returned (.tuple #[.string S, .int .i64 E]) ∧ Below w.heap.size w w' := by
  subst hS; subst hE
  exact refJoin_any v l w (by omega) hf (refs_own ho hk)
theorem beN_right (x m : Nat) : beN x (m + 1) = beN (x / 256) m ++ [UInt8.ofNat x] := by
  unfold beN
  rw [List.range_succ, List.map_append, List.map_singleton]
  congr 1
  · apply List.map_congr_left
    intro i hi
    have hin : i < m := List.mem_range.1 hi
    rw [show m + 1 - 1 - i = (m - 1 - i) + 1 by omega, Nat.pow_succ, Nat.mul_comm, Nat.div_div_eq_div_mul]
  · simp
theorem getN_beN (m : Nat) : ∀ x : Nat, x < 256 ^ m → getN (beN x m) = x := by
  induction m with
  | zero => intro x hx; have : x = 0 := by simpa using hx
            subst this; rfl
  | succ m ih =>
    intro x hx
    rw [beN_right, getN_snoc, ih (x / 256) (Nat.div_lt_of_lt_mul (by rw [Nat.pow_succ, Nat.mul_comm] at hx; exact hx)), UInt8.toNat_ofNat']
    omega
theorem ext_pre (r : ByteArray) (a b : List UInt8) (n : Nat) (h : r.data.toList = a ++ b) (hn : a.length = n) : (r.extract 0 n).data.toList = a ∧ r.extract n r.size = ⟨b.toArray⟩ ∧ n ≤ r.size := by
  have hl : r.data.toList.length = r.size := rfl
  refine ⟨?_, ?_, ?_⟩
  · rw [Lib.extract_data, h, List.drop_zero, Nat.sub_zero, List.take_left' hn]
  · apply Go.WideShapes.bytes_inj
    rw [Lib.extract_data, h, List.drop_left' hn]
    exact List.take_of_length_le (by rw [← hl, h, List.length_append]; omega)
  · rw [← hl, h, List.length_append]; omega
theorem rd_num {B m n : Nat} {r : ByteArray} {rest : List UInt8} (w : World) (h : ReaderAt w B r 0) (hr : r.size ≤ 1000000) (hd : r.data.toList = beN n m ++ rest) (h1 : 1 ≤ m) (h8 : m ≤ 8) (hn : n < 256 ^ m) :
    Calls Try.prog 15 #[.pointer (some ⟨B, 0, none⟩), .int .i64 m] w (Left3 B w (.int .u64 n) ⟨rest.toArray⟩ 0) := by
  obtain ⟨e1, e2, e3⟩ := ext_pre r _ _ m hd (beN_len n m)
  have := num_good (m := m) h hr h1 h8 e3
  rw [e1, getN_beN m n hn, e2] at this
  exact this
theorem rd_text {B : Nat} {r s : ByteArray} {rest : List UInt8} (w : World) (h : ReaderAt w B r 0) (hr : r.size ≤ 1000000) (hd : r.data.toList = (UInt8.ofNat s.size :: s.data.toList) ++ rest) (hs : s.size ≤ 255) :
    Calls Try.prog 16 #[.pointer (some ⟨B, 0, none⟩)] w (Left3 B w (.string s) ⟨rest.toArray⟩ 0) := by
  have hlen : (UInt8.ofNat s.size :: s.data.toList).length = 1 + s.size := by rw [List.length_cons, Nat.add_comm]; rfl
  obtain ⟨e1, e2, e3⟩ := ext_pre r _ _ (1 + s.size) hd hlen
  have ht : textN r = 1 + s.size := by
    unfold textN
    rw [hd]
    show 1 + (UInt8.ofNat s.size).toNat = _
    rw [UInt8.toNat_ofNat', Nat.mod_eq_of_lt (by omega)]
  have := text_good h hr ht e3
  have e4 : r.extract 1 (1 + s.size) = s := by
    apply Go.WideShapes.bytes_inj
    rw [Lib.extract_data, hd]
    simp only [List.cons_append, List.drop_succ_cons, List.drop_zero]
    rw [show 1 + s.size - 1 = s.data.toList.length by rw [Nat.add_sub_cancel_left]; rfl, List.take_left]
  rw [e4, e2] at this
  exact this
theorem rd_raw {B : Nat} {r s : ByteArray} {rest : List UInt8} (w : World) (h : ReaderAt w B r 0) (hr : r.size ≤ 1000000) (hd : r.data.toList = s.data.toList ++ rest) :
    Calls Try.prog 17 #[.pointer (some ⟨B, 0, none⟩), .int .i64 s.size] w (Left3 B w (.string s) ⟨rest.toArray⟩ 0) := by
  obtain ⟨e1, e2, e3⟩ := ext_pre r _ _ s.size hd rfl
  have := raw_good (m := s.size) h hr e3
  have e4 : r.extract 0 s.size = s := Go.WideShapes.bytes_inj e1
  rw [e4, e2] at this
  exact this
theorem joinE_all {l : List PartV} (h : joinE l = 0) : ∀ p ∈ l, chk p = 0 := by
  induction l with
  | nil => intro p hp; cases hp
  | cons a l ih =>
    simp only [joinE] at h
    intro p hp
    by_cases hc : chk a = 0
    · rw [if_pos hc] at h
      rcases List.mem_cons.1 hp with rfl | hp
      · exact hc
      · exact ih h p hp
    · rw [if_neg hc] at h; exact absurd h hc
theorem encs_len {l : List PartV} (hf : ∀ p ∈ l, p.fine) (hc : ∀ p ∈ l, chk p = 0) : (encs l).length ≤ 301 * l.length := by
  induction l with
  | nil => exact Nat.zero_le _
  | cons a l ih =>
    have h1 := enc_len a (hf a (List.mem_cons_self ..)) (hc a (List.mem_cons_self ..))
    have h2 := ih (fun p hp => hf p (List.mem_cons_of_mem _ hp)) (fun p hp => hc p (List.mem_cons_of_mem _ hp))
    have e : (encs (a :: l)).length = (enc a).length + (encs l).length := by simp [encs]
    rw [e, List.length_cons]
    omega
theorem encs_drop {l : List RefV} {j : Nat} (h : j < l.length) : encs (parts (l.drop j)) = enc l[j].part ++ encs (parts (l.drop (j + 1))) := by
  rw [List.drop_eq_getElem_cons h]
  rfl
theorem left_zero (B : Nat) (w : World) (h : ReaderAt w B ⟨#[]⟩ 0) : Calls Try.prog 18 #[.pointer (some ⟨B, 0, none⟩)] w fun en w' => en = .returned (.int .i64 0) ∧ w = w' :=
  (left_any B _ 0 w h).mono fun _ _ ⟨h1, h2⟩ => ⟨h1, h2⟩
theorem own_kept {w w' : World} {base base2 B : Nat} {e : TypeId} {size : Nat} {v : Value} {n : Nat} {xs : List Value} (h : w.ownsRow base e size v n xs) (hg : w.grownBy w' (some B)) (hb : base2 = base) (hne : v.ownBlock ≠ some B) : w'.ownsRow base2 e size v n xs := by
  subst hb
  exact h.kept hg (.inr hne)
end Go.Proofs.Ytlafpdhjknpfbaa
