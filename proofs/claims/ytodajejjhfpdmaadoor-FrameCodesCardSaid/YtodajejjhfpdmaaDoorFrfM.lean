/-
  The program's and the document's reading of a frame side by side (the mathematics). The two readings of a frame side by side: keys, marks, commands, members, entries. The two readings of a frame side by side: values. The two readings of a frame side by side: lives, views, lists of entries, fields. The two readings of a frame side by side: views, lists of entries, fields. The two readings of a frame side by side: fields; the whole frame.
-/
import Derived.Test.YtodajejjhfpdmaaDoorFrfA
namespace Go.Proofs.YtodajejjhfpdmaaDoor
open Go.RowKit Go.Instr

/-- The document's state and the program's: alike; or a byte was missing; or something was wrong. -/
def Rel (z : Zs) (s : Sd) : Prop :=
  z.ok ∧ ((z.err = 0 ∧ s.wr = false ∧ s.f = 0 ∧ s.r = z.s.extract z.at_ z.s.size) ∨ (z.err = 2 ∧ s.wr = false ∧ s.f = 2) ∨ (z.err = 4 ∧ s.wr = true))
theorem two_ne : ¬ ((2 : Int) = 0) := by decide
theorem four_ne : ¬ ((4 : Int) = 0) := by decide
theorem ext_two (b : ByteArray) (a n m : Nat) (hn : n ≤ m) (hm : a + m ≤ b.size) : (b.extract a b.size).extract n m = b.extract (a + n) (a + m) := by
  apply Go.WideShapes.bytes_inj
  rw [Lib.extract_data, Lib.extract_data, Lib.extract_data]
  have hl : b.data.toList.length = b.size := rfl
  rw [List.take_of_length_le (l := List.drop a b.data.toList) (by rw [List.length_drop]; omega), List.drop_drop]
  congr 1
  omega
theorem ext_size (b : ByteArray) (a : Nat) : (b.extract a b.size).size = b.size - a := by rw [ByteArray.size_extract]; omega
theorem rel_num {z : Zs} {s : Sd} {k : Nat} (hk : k = 1 ∨ k = 4) (h : Rel z s) :
    Rel (rNum z k).1 (dNum k s).2 ∧ ((rNum z k).1.err = 0 → (dNum k s).1 = (rNum z k).2) ∧ ((rNum z k).1.err = 2 → (dNum k s).1 = 0) := by
  have hok := rNum_ok (k := k) h.1
  have hs : sizedB (k : Int) = true := by rcases hk with rfl | rfl <;> decide
  obtain ⟨⟨hz1, hz2⟩, h⟩ := h
  obtain ⟨zs, za, ze⟩ := z
  obtain ⟨sr, sf, sw⟩ := s
  simp only at hz1 hz2 h
  have hd : dNum k ⟨sr, sf, sw⟩ = (getN (takeT sr sf k).data.toList, ⟨takeR sr sf k, takeF sr sf k, sw⟩) := by
    unfold dNum numN numR numF
    simp only [hs, if_true, Int.toNat_natCast]
  rw [hd]
  rcases h with ⟨rfl, rfl, rfl, rfl⟩ | ⟨rfl, rfl, rfl⟩ | ⟨rfl, rfl⟩
  · by_cases hl : zs.size < za + k
    · have e : rNum ⟨zs, za, 0⟩ k = (⟨zs, za, 2⟩, 0) := by unfold rNum; rw [if_pos rfl, if_pos hl]
      have hsz := ext_size zs za
      have hlt : ¬ k ≤ (zs.extract za zs.size).size := by omega
      rw [e] at hok ⊢
      refine ⟨⟨hok, .inr (.inl ⟨rfl, rfl, ?_⟩)⟩, fun h => absurd h two_ne, fun _ => ?_⟩
      · show takeF (zs.extract za zs.size) 0 k = 2
        unfold takeF; rw [if_pos rfl, if_neg hlt]
      · show getN (takeT (zs.extract za zs.size) 0 k).data.toList = 0
        unfold takeT; rw [if_neg (fun h => hlt h.2)]; rfl
    · have e : rNum ⟨zs, za, 0⟩ k = (⟨zs, za + k, 0⟩, getN (zs.extract za (za + k)).data.toList) := by unfold rNum; rw [if_pos rfl, if_neg hl]
      have hsz := ext_size zs za
      have hle : k ≤ (zs.extract za zs.size).size := by omega
      have e0 : (zs.extract za zs.size).extract 0 k = zs.extract za (za + k) := by rw [ext_two zs za 0 k (Nat.zero_le _) (by omega), Nat.add_zero]
      have e1 : (zs.extract za zs.size).extract k (zs.extract za zs.size).size = zs.extract (za + k) zs.size := by
        rw [hsz, ext_two zs za k _ (by omega) (by omega)]
        congr 1
        omega
      rw [e] at hok ⊢
      refine ⟨⟨hok, .inl ⟨rfl, rfl, ?_, ?_⟩⟩, fun _ => ?_, fun h => absurd h (by show ¬ ((0 : Int) = 2); decide)⟩
      · show takeF (zs.extract za zs.size) 0 k = 0
        unfold takeF; rw [if_pos rfl, if_pos hle]
      · show takeR (zs.extract za zs.size) 0 k = zs.extract (za + k) zs.size
        unfold takeR; rw [if_pos ⟨rfl, hle⟩, e1]
      · show getN (takeT (zs.extract za zs.size) 0 k).data.toList = getN (zs.extract za (za + k)).data.toList
        unfold takeT; rw [if_pos ⟨rfl, hle⟩, e0]
  · have e : rNum ⟨zs, za, 2⟩ k = (⟨zs, za, 2⟩, 0) := by unfold rNum; rw [if_neg two_ne]
    rw [e] at hok ⊢
    refine ⟨⟨hok, .inr (.inl ⟨rfl, rfl, ?_⟩)⟩, fun h => absurd h (by show ¬ ((2 : Int) = 0); decide), fun _ => ?_⟩
    · show takeF sr 2 k = 2
      unfold takeF; rw [if_neg (by decide)]
    · show getN (takeT sr 2 k).data.toList = 0
      unfold takeT; rw [if_neg (fun h => absurd h.1 (by decide))]; rfl
  · have e : rNum ⟨zs, za, 4⟩ k = (⟨zs, za, 4⟩, 0) := by unfold rNum; rw [if_neg four_ne]
    rw [e] at hok ⊢
    exact ⟨⟨hok, .inr (.inr ⟨rfl, rfl⟩)⟩, fun h => absurd h (by show ¬ ((4 : Int) = 0); decide), fun h => absurd h (by show ¬ ((4 : Int) = 2); decide)⟩
theorem rel_must {z : Zs} {s : Sd} {b c : Bool} (h : Rel z s) (h0 : z.err = 0 → c = b) (h2 : z.err = 2 → c = true) : Rel (rMust z b) (s.ck c) := by
  have hok := rMust_ok (b := b) h.1
  obtain ⟨hz, h⟩ := h
  obtain ⟨zs, za, ze⟩ := z
  obtain ⟨sr, sf, sw⟩ := s
  simp only at hz h h0 h2
  rcases h with ⟨rfl, rfl, rfl, rfl⟩ | ⟨rfl, rfl, rfl⟩ | ⟨rfl, rfl⟩
  · have hc := h0 rfl
    subst hc
    cases c
    · exact ⟨hok, .inr (.inr ⟨rfl, rfl⟩)⟩
    · exact ⟨hok, .inl ⟨rfl, rfl, rfl, rfl⟩⟩
  · have hc := h2 rfl
    subst hc
    have e : rMust ⟨zs, za, 2⟩ b = ⟨zs, za, 2⟩ := by unfold rMust; rw [if_neg (fun h => two_ne h.1)]
    rw [e] at hok ⊢
    exact ⟨hok, .inr (.inl ⟨rfl, rfl, rfl⟩)⟩
  · have e : rMust ⟨zs, za, 4⟩ b = ⟨zs, za, 4⟩ := by unfold rMust; rw [if_neg (fun h => four_ne h.1)]
    rw [e] at hok ⊢
    exact ⟨hok, .inr (.inr ⟨rfl, by simp [Sd.ck]⟩)⟩
theorem rMust_err {z : Zs} {b : Bool} (h : (rMust z b).err = 0) : z.err = 0 := by
  unfold rMust at h
  split at h
  · exact absurd h four_ne
  · exact h
theorem rNum_err {z : Zs} {k : Nat} (h : (rNum z k).1.err = 0) : z.err = 0 := by
  unfold rNum at h
  split at h
  · next h0 => exact h0
  · exact h
theorem rel_flag {z : Zs} {s : Sd} (h : Rel z s) : Rel (rBit z).1 (dFlag s).2 ∧ ((rBit z).1.err = 0 → (dFlag s).1 = (rBit z).2) := by
  obtain ⟨h1, h2, h3⟩ := rel_num (k := 1) (.inl rfl) h
  refine ⟨rel_must h1 (fun h => ?_) (fun h => ?_), fun h => ?_⟩
  · show decide ((dNum 1 s).1 ≤ 1) = decide ((rNum z 1).2 ≤ 1)
    rw [h2 h]
  · show decide ((dNum 1 s).1 ≤ 1) = true
    rw [h3 h]; rfl
  · show ((dNum 1 s).1 == 1) = ((rNum z 1).2 == 1)
    rw [h2 (rMust_err h)]
end Go.Proofs.YtodajejjhfpdmaaDoor


namespace Go.Proofs.YtodajejjhfpdmaaDoor
open Go.RowKit Go.Instr

def rKey (z : Zs) : Zs × Nat := (rMust (rNum z 1).1 (decide ((rNum z 1).2 < 6)), (rNum z 1).2)
def rMark (z : Zs) : Zs × (Nat × Nat) := ((rNum (rNum z 4).1 1).1, ((rNum z 4).2, (rNum (rNum z 4).1 1).2))
def rStamp (z : Zs) : Zs × (Nat × Nat × Nat) := ((rNum (rMark z).1 1).1, ((rMark z).2.1, (rMark z).2.2, (rNum (rMark z).1 1).2))
def rMem (z : Zs) : Zs × Mem := ((rBit (rNum (rNum z 1).1 1).1).1, ⟨(rNum z 1).2, (rNum (rNum z 1).1 1).2, (rBit (rNum (rNum z 1).1 1).1).2⟩)
def rMems : Nat → Zs → List Mem → Zs × List Mem
  | 0, z, l => (z, l)
  | n + 1, z, l => if z.err = 0 then rMems n (rMem z).1 (l ++ [(rMem z).2]) else (z, l)
def rEnt (z : Zs) : Zs × Ent := ((rCmd (rMark (rNum z 4).1).1).1, ⟨(rNum z 4).2, (rMark (rNum z 4).1).2.1, (rMark (rNum z 4).1).2.2, (rCmd (rMark (rNum z 4).1).1).2⟩)
def rEnts : Nat → Zs → List Ent → Zs × List Ent
  | 0, z, l => (z, l)
  | n + 1, z, l => if z.err = 0 then rEnts n (rEnt z).1 (l ++ [(rEnt z).2]) else (z, l)
theorem rNum_stay {z : Zs} {k : Nat} (h : z.err ≠ 0) : (rNum z k).1 = z := by unfold rNum; rw [if_neg h]
theorem rMust_stay {z : Zs} {b : Bool} (h : z.err ≠ 0) : rMust z b = z := by unfold rMust; rw [if_neg (fun hh => h hh.1)]
theorem rBit_stay {z : Zs} (h : z.err ≠ 0) : (rBit z).1 = z := by
  unfold rBit
  simp only
  rw [rNum_stay h, rMust_stay h]
theorem rMem_stay {z : Zs} (h : z.err ≠ 0) : (rMem z).1 = z := by
  unfold rMem
  simp only
  rw [rNum_stay h, rNum_stay h, rBit_stay h]
theorem rMark_stay {z : Zs} (h : z.err ≠ 0) : (rMark z).1 = z := by
  unfold rMark
  simp only
  rw [rNum_stay h, rNum_stay h]
theorem rCmd_stay {z : Zs} (h : z.err ≠ 0) : (rCmd z).1 = z := by
  show (rNum (rNum (rNum (rNum (rNum z 1).1 1).1 1).1 4).1 4).1 = z
  rw [rNum_stay h, rNum_stay h, rNum_stay h, rNum_stay h, rNum_stay h]
theorem rEnt_stay {z : Zs} (h : z.err ≠ 0) : (rEnt z).1 = z := by
  unfold rEnt
  simp only
  rw [rNum_stay h, rMark_stay h, rCmd_stay h]
theorem rBit_err {z : Zs} (h : (rBit z).1.err = 0) : z.err = 0 := rNum_err (rMust_err h)
theorem rMark_err {z : Zs} (h : (rMark z).1.err = 0) : z.err = 0 := rNum_err (rNum_err h)
theorem rel_key {z : Zs} {s : Sd} (h : Rel z s) : Rel (rKey z).1 (dKey s).2 ∧ ((rKey z).1.err = 0 → (dKey s).1 = (rKey z).2) := by
  obtain ⟨h1, h2, h3⟩ := rel_num (k := 1) (.inl rfl) h
  refine ⟨rel_must h1 (fun h => ?_) (fun h => ?_), fun h => ?_⟩
  · show decide ((dNum 1 s).1 < 6) = decide ((rNum z 1).2 < 6)
    rw [h2 h]
  · show decide ((dNum 1 s).1 < 6) = true
    rw [h3 h]; rfl
  · exact h2 (rMust_err h)
theorem rel_mark {z : Zs} {s : Sd} (h : Rel z s) : Rel (rMark z).1 (dMark s).2 ∧ ((rMark z).1.err = 0 → (dMark s).1 = (rMark z).2) := by
  obtain ⟨h1, h2, _⟩ := rel_num (k := 4) (.inr rfl) h
  obtain ⟨k1, k2, _⟩ := rel_num (k := 1) (.inl rfl) h1
  refine ⟨k1, fun h => ?_⟩
  show ((dNum 4 s).1, (dNum 1 (dNum 4 s).2).1) = ((rNum z 4).2, (rNum (rNum z 4).1 1).2)
  rw [h2 (rNum_err h), k2 h]
theorem rel_stamp {z : Zs} {s : Sd} (h : Rel z s) : Rel (rStamp z).1 (dStamp s).2 ∧ ((rStamp z).1.err = 0 → (dStamp s).1 = (rStamp z).2) := by
  obtain ⟨h1, h2⟩ := rel_mark h
  obtain ⟨k1, k2, _⟩ := rel_num (k := 1) (.inl rfl) h1
  refine ⟨k1, fun h => ?_⟩
  have e1 := h2 (rNum_err h)
  have e2 := k2 h
  show ((dMark s).1.1, (dMark s).1.2, (dNum 1 (dMark s).2).1) = ((rMark z).2.1, (rMark z).2.2, (rNum (rMark z).1 1).2)
  rw [e1, e2]
theorem rel_cmd {z : Zs} {s : Sd} (h : Rel z s) : Rel (rCmd z).1 (dCmd s).2 ∧ ((rCmd z).1.err = 0 → (dCmd s).1 = (rCmd z).2) := by
  obtain ⟨h1, e1, _⟩ := rel_num (k := 1) (.inl rfl) h
  obtain ⟨h2, e2, _⟩ := rel_num (k := 1) (.inl rfl) h1
  obtain ⟨h3, e3, _⟩ := rel_num (k := 1) (.inl rfl) h2
  obtain ⟨h4, e4, _⟩ := rel_num (k := 4) (.inr rfl) h3
  obtain ⟨h5, e5, _⟩ := rel_num (k := 4) (.inr rfl) h4
  refine ⟨h5, fun h => ?_⟩
  have f5 := e5 h
  have f4 := e4 (rNum_err h)
  have f3 := e3 (rNum_err (rNum_err h))
  have f2 := e2 (rNum_err (rNum_err (rNum_err h)))
  have f1 := e1 (rNum_err (rNum_err (rNum_err (rNum_err h))))
  show (⟨(dNum 1 s).1, (dNum 1 (dNum 1 s).2).1, (dNum 1 (dNum 1 (dNum 1 s).2).2).1, (dNum 4 (dNum 1 (dNum 1 (dNum 1 s).2).2).2).1, (dNum 4 (dNum 4 (dNum 1 (dNum 1 (dNum 1 s).2).2).2).2).1⟩ : CmdV) = ⟨(rNum z 1).2, (rNum (rNum z 1).1 1).2, (rNum (rNum (rNum z 1).1 1).1 1).2, (rNum (rNum (rNum (rNum z 1).1 1).1 1).1 4).2, (rNum (rNum (rNum (rNum (rNum z 1).1 1).1 1).1 4).1 4).2⟩
  rw [f1, f2, f3, f4, f5]
theorem rel_mem {z : Zs} {s : Sd} (h : Rel z s) : Rel (rMem z).1 (dMem s).2 ∧ ((rMem z).1.err = 0 → (dMem s).1 = (rMem z).2) := by
  obtain ⟨h1, e1, _⟩ := rel_num (k := 1) (.inl rfl) h
  obtain ⟨h2, e2, _⟩ := rel_num (k := 1) (.inl rfl) h1
  obtain ⟨h3, e3⟩ := rel_flag h2
  refine ⟨h3, fun h => ?_⟩
  have f3 := e3 h
  have f2 := e2 (rBit_err h)
  have f1 := e1 (rNum_err (rBit_err h))
  show (⟨(dNum 1 s).1, (dNum 1 (dNum 1 s).2).1, (dFlag (dNum 1 (dNum 1 s).2).2).1⟩ : Mem) = ⟨(rNum z 1).2, (rNum (rNum z 1).1 1).2, (rBit (rNum (rNum z 1).1 1).1).2⟩
  rw [f1, f2, f3]
theorem rCmd_err {z : Zs} (h : (rCmd z).1.err = 0) : z.err = 0 := rNum_err (rNum_err (rNum_err (rNum_err (rNum_err h))))
theorem rel_ent {z : Zs} {s : Sd} (h : Rel z s) : Rel (rEnt z).1 (dEnt s).2 ∧ ((rEnt z).1.err = 0 → (dEnt s).1 = (rEnt z).2) := by
  obtain ⟨h1, e1, _⟩ := rel_num (k := 4) (.inr rfl) h
  obtain ⟨h2, e2⟩ := rel_mark h1
  obtain ⟨h3, e3⟩ := rel_cmd h2
  refine ⟨h3, fun h => ?_⟩
  have f3 := e3 h
  have f2 := e2 (rCmd_err h)
  have f1 := e1 (rMark_err (rCmd_err h))
  show (⟨(dNum 4 s).1, (dMark (dNum 4 s).2).1.1, (dMark (dNum 4 s).2).1.2, (dCmd (dMark (dNum 4 s).2).2).1⟩ : Ent) = ⟨(rNum z 4).2, (rMark (rNum z 4).1).2.1, (rMark (rNum z 4).1).2.2, (rCmd (rMark (rNum z 4).1).1).2⟩
  rw [f1, f2, f3]
theorem dMems_cons (s : Sd) (n : Nat) : dMems s (n + 1) = ((dMem s).1 :: (dMems (dMem s).2 n).1, (dMems (dMem s).2 n).2) := by
  induction n with
  | zero => rfl
  | succ n ih =>
    have e : dMems s (n + 2) = ((dMems s (n + 1)).1 ++ [(dMem (dMems s (n + 1)).2).1], (dMem (dMems s (n + 1)).2).2) := rfl
    rw [e, ih]
    rfl
theorem dEnts_cons (s : Sd) (n : Nat) : dEnts s (n + 1) = ((dEnt s).1 :: (dEnts (dEnt s).2 n).1, (dEnts (dEnt s).2 n).2) := by
  induction n with
  | zero => rfl
  | succ n ih =>
    have e : dEnts s (n + 2) = ((dEnts s (n + 1)).1 ++ [(dEnt (dEnts s (n + 1)).2).1], (dEnt (dEnts s (n + 1)).2).2) := rfl
    rw [e, ih]
    rfl
theorem rel_mems (n : Nat) : ∀ (z : Zs) (s : Sd) (l : List Mem), Rel z s → Rel (rMems n z l).1 (dMems s n).2 ∧ ((rMems n z l).1.err = 0 → (rMems n z l).2 = l ++ (dMems s n).1 ∧ z.err = 0) := by
  induction n with
  | zero => intro z s l h; exact ⟨h, fun he => ⟨by simp [rMems, dMems], he⟩⟩
  | succ n ih =>
    intro z s l h
    obtain ⟨h1, h2⟩ := rel_mem h
    rw [dMems_cons]
    by_cases he : z.err = 0
    · have e : rMems (n + 1) z l = rMems n (rMem z).1 (l ++ [(rMem z).2]) := by show (if z.err = 0 then _ else _) = _; rw [if_pos he]
      rw [e]
      obtain ⟨k1, k2⟩ := ih (rMem z).1 (dMem s).2 (l ++ [(rMem z).2]) h1
      refine ⟨k1, fun h => ?_⟩
      obtain ⟨k3, k4⟩ := k2 h
      refine ⟨?_, he⟩
      rw [k3, h2 k4]
      simp
    · have e : rMems (n + 1) z l = (z, l) := by show (if z.err = 0 then _ else _) = _; rw [if_neg he]
      rw [e]
      rw [rMem_stay he] at h1
      have k1 := (ih z (dMem s).2 l h1).1
      have e2 : (rMems n z l).1 = z := by cases n with
        | zero => rfl
        | succ n => show (if z.err = 0 then _ else _ : Zs × List Mem).1 = z; rw [if_neg he]
      rw [e2] at k1
      exact ⟨k1, fun h => absurd h he⟩
theorem rel_ents (n : Nat) : ∀ (z : Zs) (s : Sd) (l : List Ent), Rel z s → Rel (rEnts n z l).1 (dEnts s n).2 ∧ ((rEnts n z l).1.err = 0 → (rEnts n z l).2 = l ++ (dEnts s n).1 ∧ z.err = 0) := by
  induction n with
  | zero => intro z s l h; exact ⟨h, fun he => ⟨by simp [rEnts, dEnts], he⟩⟩
  | succ n ih =>
    intro z s l h
    obtain ⟨h1, h2⟩ := rel_ent h
    rw [dEnts_cons]
    by_cases he : z.err = 0
    · have e : rEnts (n + 1) z l = rEnts n (rEnt z).1 (l ++ [(rEnt z).2]) := by show (if z.err = 0 then _ else _) = _; rw [if_pos he]
      rw [e]
      obtain ⟨k1, k2⟩ := ih (rEnt z).1 (dEnt s).2 (l ++ [(rEnt z).2]) h1
      refine ⟨k1, fun h => ?_⟩
      obtain ⟨k3, k4⟩ := k2 h
      refine ⟨?_, he⟩
      rw [k3, h2 k4]
      simp
    · have e : rEnts (n + 1) z l = (z, l) := by show (if z.err = 0 then _ else _) = _; rw [if_neg he]
      rw [e]
      rw [rEnt_stay he] at h1
      have k1 := (ih z (dEnt s).2 l h1).1
      have e2 : (rEnts n z l).1 = z := by cases n with
        | zero => rfl
        | succ n => show (if z.err = 0 then _ else _ : Zs × List Ent).1 = z; rw [if_neg he]
      rw [e2] at k1
      exact ⟨k1, fun h => absurd h he⟩
end Go.Proofs.YtodajejjhfpdmaaDoor


namespace Go.Proofs.YtodajejjhfpdmaaDoor
open Go.RowKit Go.Instr

/-- The document's reading of a text of so many bytes, behind its length. -/
def rText (z : Zs) (n : Nat) (b : Bool) : Zs × ByteArray :=
  if z.err = 0 then if z.s.size < z.at_ + n then (⟨z.s, z.at_, 2⟩, ⟨#[]⟩) else (rMust ⟨z.s, z.at_ + n, z.err⟩ (valueB b (z.s.extract z.at_ (z.at_ + n))), z.s.extract z.at_ (z.at_ + n)) else (z, ⟨#[]⟩)
def rVal (z : Zs) : Zs × (Bool × ByteArray) :=
  ((rText (rNum (rBit z).1 1).1 (rNum (rBit z).1 1).2 (rBit z).2).1, ((rBit z).2, (rText (rNum (rBit z).1 1).1 (rNum (rBit z).1 1).2 (rBit z).2).2))
theorem rText_err {z : Zs} {n : Nat} {b : Bool} (h : (rText z n b).1.err = 0) : z.err = 0 := by
  unfold rText at h
  split at h
  · next h0 => exact h0
  · exact h
theorem valueB_empty (b : Bool) : valueB b ⟨#[]⟩ = true := by
  have h : (⟨#[]⟩ : ByteArray).toList = [] := by rw [ByteArray.toList_eq]
  unfold valueB
  rw [h]
  cases b <;> rfl
/-- The program's reading of a text is the document's of its length and of its bytes. -/
theorem rel_text {z : Zs} {s : Sd} (b b' : Bool) (h : Rel z s) (hb : z.err = 0 → b' = b) :
    Rel (rText (rNum z 1).1 (rNum z 1).2 b).1 ((dText s).2.ck (valueB b' (dText s).1)) ∧ ((rText (rNum z 1).1 (rNum z 1).2 b).1.err = 0 → (dText s).1 = (rText (rNum z 1).1 (rNum z 1).2 b).2) := by
  obtain ⟨hz, h⟩ := h
  obtain ⟨zs, za, ze⟩ := z
  obtain ⟨sr, sf, sw⟩ := s
  obtain ⟨hz1, hz2⟩ := hz
  simp only at hz1 hz2 h hb
  rcases h with ⟨rfl, rfl, rfl, rfl⟩ | ⟨rfl, rfl, rfl⟩ | ⟨rfl, rfl⟩
  · have hb := hb rfl
    subst hb
    have hsz := ext_size zs za
    by_cases h1 : zs.size < za + 1
    · have e1 : rNum ⟨zs, za, 0⟩ 1 = (⟨zs, za, 2⟩, 0) := by unfold rNum; rw [if_pos rfl, if_pos h1]
      have e2 : rText ⟨zs, za, 2⟩ 0 b' = (⟨zs, za, 2⟩, ⟨#[]⟩) := by unfold rText; rw [if_neg two_ne]
      have hne : ¬ textN (zs.extract za zs.size) ≤ (zs.extract za zs.size).size := by unfold textN; omega
      have e3 : dText ⟨zs.extract za zs.size, 0, false⟩ = (⟨#[]⟩, ⟨zs.extract za zs.size, 2, false⟩) := by
        unfold dText takeT takeR takeF
        simp only
        rw [if_neg (fun h => hne h.2), if_neg (fun h => hne h.2), if_pos True.intro, if_neg hne]
        rfl
      rw [e1, e3]
      simp only
      rw [e2, valueB_empty]
      exact ⟨⟨⟨hz1, hz2⟩, .inr (.inl ⟨rfl, rfl, rfl⟩)⟩, fun h => absurd h two_ne⟩
    · obtain ⟨n, hn⟩ : ∃ n, n = getN (zs.extract za (za + 1)).data.toList := ⟨_, rfl⟩
      have e1 : rNum ⟨zs, za, 0⟩ 1 = (⟨zs, za + 1, 0⟩, n) := by unfold rNum; rw [if_pos rfl, if_neg h1, hn]
      have hlz : zs.data.toList.length = zs.size := rfl
      have ht : textN (zs.extract za zs.size) = 1 + n := by
        rw [hn]
        unfold textN
        rw [Lib.extract_data, Lib.extract_data, List.take_of_length_le (l := List.drop za zs.data.toList) (by rw [List.length_drop]; omega), show za + 1 - za = 1 by omega]
        have hne : (List.drop za zs.data.toList).length ≠ 0 := by rw [List.length_drop]; omega
        generalize List.drop za zs.data.toList = L at hne
        cases L with
        | nil => exact absurd rfl hne
        | cons c L =>
          show 1 + c.toNat = 1 + (256 * 0 + c.toNat)
          omega
      rw [e1]
      simp only
      by_cases h2 : zs.size < za + 1 + n
      · have e2 : rText ⟨zs, za + 1, 0⟩ n b' = (⟨zs, za + 1, 2⟩, ⟨#[]⟩) := by unfold rText; rw [if_pos rfl, if_pos h2]
        have hne : ¬ 1 + n ≤ (zs.extract za zs.size).size := by omega
        have e3 : dText ⟨zs.extract za zs.size, 0, false⟩ = (⟨#[]⟩, ⟨zs.extract za zs.size, 2, false⟩) := by
          unfold dText takeT takeR takeF
          simp only
          rw [ht, if_neg (fun h => hne h.2), if_neg (fun h => hne h.2), if_pos True.intro, if_neg hne]
          rfl
        rw [e2, e3]
        simp only
        rw [valueB_empty]
        exact ⟨⟨⟨by simp only; omega, hz2⟩, .inr (.inl ⟨rfl, rfl, rfl⟩)⟩, fun h => absurd h two_ne⟩
      · obtain ⟨t, hte⟩ : ∃ t, t = zs.extract (za + 1) (za + 1 + n) := ⟨_, rfl⟩
        have e2 : rText ⟨zs, za + 1, 0⟩ n b' = (rMust ⟨zs, za + 1 + n, 0⟩ (valueB b' t), t) := by unfold rText; rw [if_pos rfl, if_neg h2, hte]
        have hle : 1 + n ≤ (zs.extract za zs.size).size := by omega
        have e0 : (zs.extract za zs.size).extract 0 (1 + n) = zs.extract za (za + (1 + n)) := by rw [ext_two zs za 0 (1 + n) (Nat.zero_le _) (by omega), Nat.add_zero]
        have e4 : (zs.extract za zs.size).extract (1 + n) (zs.extract za zs.size).size = zs.extract (za + 1 + n) zs.size := by
          rw [hsz, ext_two zs za _ _ (by omega) (by omega)]
          congr 1 <;> omega
        have hs0 : (zs.extract za (za + (1 + n))).size ≠ 0 := by rw [ByteArray.size_extract]; omega
        have e5 : (zs.extract za (za + (1 + n))).extract 1 (zs.extract za (za + (1 + n))).size = t := by
          rw [hte]
          apply Go.WideShapes.bytes_inj
          rw [Lib.extract_data, Lib.extract_data, Lib.extract_data, ByteArray.size_extract, List.drop_take, List.drop_drop, List.take_take]
          congr 1
          omega
        have e3 : dText ⟨zs.extract za zs.size, 0, false⟩ = (t, ⟨zs.extract (za + 1 + n) zs.size, 0, false⟩) := by
          unfold dText takeT takeR takeF
          simp only
          rw [ht, if_pos ⟨True.intro, hle⟩, if_pos ⟨True.intro, hle⟩, if_pos True.intro, if_pos hle, e0, e4]
          unfold tailT
          rw [if_neg hs0, e5]
        rw [e2, e3]
        have hr : Rel ⟨zs, za + 1 + n, 0⟩ ⟨zs.extract (za + 1 + n) zs.size, 0, false⟩ := ⟨⟨by simp only; omega, hz2⟩, .inl ⟨rfl, rfl, rfl, rfl⟩⟩
        exact ⟨rel_must hr (fun _ => rfl) (fun h => absurd h (by show ¬ ((0 : Int) = 2); decide)), fun _ => rfl⟩
  · have e1 : rNum ⟨zs, za, 2⟩ 1 = (⟨zs, za, 2⟩, 0) := by unfold rNum; rw [if_neg two_ne]
    have e2 : rText ⟨zs, za, 2⟩ 0 b = (⟨zs, za, 2⟩, ⟨#[]⟩) := by unfold rText; rw [if_neg two_ne]
    have e3 : dText ⟨sr, 2, false⟩ = (⟨#[]⟩, ⟨sr, 2, false⟩) := by
      unfold dText takeT takeR takeF
      simp only
      rw [if_neg (fun h => two_ne h.1), if_neg (fun h => two_ne h.1), if_neg two_ne]
      rfl
    rw [e1, e3]
    simp only
    rw [e2, valueB_empty]
    exact ⟨⟨⟨hz1, hz2⟩, .inr (.inl ⟨rfl, rfl, rfl⟩)⟩, fun h => absurd h two_ne⟩
  · have e1 : rNum ⟨zs, za, 4⟩ 1 = (⟨zs, za, 4⟩, 0) := by unfold rNum; rw [if_neg four_ne]
    have e2 : rText ⟨zs, za, 4⟩ 0 b = (⟨zs, za, 4⟩, ⟨#[]⟩) := by unfold rText; rw [if_neg four_ne]
    rw [e1]
    simp only
    rw [e2]
    exact ⟨⟨⟨hz1, hz2⟩, .inr (.inr ⟨rfl, by simp [Sd.ck, dText]⟩)⟩, fun h => absurd h four_ne⟩
theorem rel_val {z : Zs} {s : Sd} (h : Rel z s) : Rel (rVal z).1 (dValue s).2 ∧ ((rVal z).1.err = 0 → (dValue s).1 = (rVal z).2) := by
  obtain ⟨h1, e1⟩ := rel_flag h
  obtain ⟨h2, e2⟩ := rel_text (rBit z).2 (dFlag s).1 h1 e1
  refine ⟨h2, fun h => ?_⟩
  show ((dFlag s).1, (dText (dFlag s).2).1) = ((rBit z).2, (rText (rNum (rBit z).1 1).1 (rNum (rBit z).1 1).2 (rBit z).2).2)
  rw [e2 h, e1 (rNum_err (rText_err h))]
end Go.Proofs.YtodajejjhfpdmaaDoor


namespace Go.Proofs.YtodajejjhfpdmaaDoor
open Go.RowKit Go.Instr

def rLv : Nat → Zs → Zs × List Nat
  | 0, z => (z, [])
  | n + 1, z => ((rLv n (rNum z 1).1).1, (rNum z 1).2 :: (rLv n (rNum z 1).1).2)
theorem rLv_stay (n : Nat) : ∀ {z : Zs}, z.err ≠ 0 → (rLv n z).1 = z := by
  induction n with
  | zero => intro z _; rfl
  | succ n ih =>
    intro z h
    show (rLv n (rNum z 1).1).1 = z
    rw [rNum_stay h, ih h]
theorem rLv_err (n : Nat) : ∀ {z : Zs}, (rLv n z).1.err = 0 → z.err = 0 := by
  induction n with
  | zero => intro z h; exact h
  | succ n ih => intro z h; exact rNum_err (ih h)
theorem rLv_ok (zs : ByteArray) (n : Nat) : ∀ (za : Nat), za + n ≤ zs.size → rLv n ⟨zs, za, 0⟩ = (⟨zs, za + n, 0⟩, ((zs.data.toList.drop za).take n).map UInt8.toNat) := by
  induction n with
  | zero => intro za _; simp [rLv]
  | succ n ih =>
    intro za h
    have hl : zs.data.toList.length = zs.size := rfl
    have hlt : za < zs.data.toList.length := by omega
    have hd : zs.data.toList.drop za = zs.data.toList[za] :: zs.data.toList.drop (za + 1) := List.drop_eq_getElem_cons hlt
    have e1 : rNum ⟨zs, za, 0⟩ 1 = (⟨zs, za + 1, 0⟩, zs.data.toList[za].toNat) := by
      unfold rNum
      rw [if_pos rfl, if_neg (by simp only; omega)]
      simp only [Prod.mk.injEq, true_and]
      rw [Lib.extract_data, show za + 1 - za = 1 by omega, hd]
      show 256 * 0 + zs.data.toList[za].toNat = _
      omega
    have e : rLv (n + 1) ⟨zs, za, 0⟩ = ((rLv n (rNum ⟨zs, za, 0⟩ 1).1).1, (rNum ⟨zs, za, 0⟩ 1).2 :: (rLv n (rNum ⟨zs, za, 0⟩ 1).1).2) := rfl
    rw [e, e1]
    simp only
    rw [ih (za + 1) (by omega), hd]
    simp only [List.take_succ_cons, List.map_cons]
    rw [show za + 1 + n = za + (n + 1) by omega]
theorem rLv_short (zs : ByteArray) (n : Nat) : ∀ (za : Nat), za ≤ zs.size → zs.size < za + n → (rLv n ⟨zs, za, 0⟩).1.err = 2 ∧ (rLv n ⟨zs, za, 0⟩).1.at_ ≤ zs.size ∧ (rLv n ⟨zs, za, 0⟩).1.s = zs := by
  induction n with
  | zero => intro za h1 h2; omega
  | succ n ih =>
    intro za h1 h2
    show (rLv n (rNum ⟨zs, za, 0⟩ 1).1).1.err = 2 ∧ (rLv n (rNum ⟨zs, za, 0⟩ 1).1).1.at_ ≤ zs.size ∧ (rLv n (rNum ⟨zs, za, 0⟩ 1).1).1.s = zs
    by_cases h : zs.size < za + 1
    · have e1 : rNum ⟨zs, za, 0⟩ 1 = (⟨zs, za, 2⟩, 0) := by unfold rNum; rw [if_pos rfl, if_pos h]
      rw [e1]
      simp only
      rw [rLv_stay n (z := ⟨zs, za, 2⟩) two_ne]
      exact ⟨rfl, h1, rfl⟩
    · have e1 : (rNum ⟨zs, za, 0⟩ 1).1 = ⟨zs, za + 1, 0⟩ := by unfold rNum; rw [if_pos rfl, if_neg h]
      rw [e1]
      exact ih (za + 1) (by omega) (by omega)
def lvOfL (l : List Nat) : Lv := ⟨l.getD 0 0, l.getD 1 0, l.getD 2 0, l.getD 3 0, l.getD 4 0, l.getD 5 0, l.getD 6 0, l.getD 7 0⟩
theorem getD_toNat (l : List UInt8) (i : Nat) : (l.map UInt8.toNat).getD i 0 = (l.getD i 0).toNat := by
  simp only [List.getD_eq_getElem?_getD, List.getElem?_map]
  cases l[i]? <;> rfl
theorem lvOf_list (t : ByteArray) : lvOf t = lvOfL (t.data.toList.map UInt8.toNat) := by
  unfold lvOf lvOfL byteN
  simp only [getD_toNat]
theorem dRaw_eq (n : Nat) (s : Sd) : dRaw n s = (takeT s.r s.f n, ⟨takeR s.r s.f n, takeF s.r s.f n, s.wr⟩) := by
  unfold dRaw rawT rawR rawF
  rw [if_neg (by omega), if_neg (by omega), if_neg (by omega), Int.toNat_natCast]
theorem rel_lives {z : Zs} {s : Sd} (h : Rel z s) : Rel (rLv 8 z).1 (dRaw 8 s).2 ∧ ((rLv 8 z).1.err = 0 → lvOf (dRaw 8 s).1 = lvOfL (rLv 8 z).2) := by
  obtain ⟨⟨hz1, hz2⟩, h⟩ := h
  obtain ⟨zs, za, ze⟩ := z
  obtain ⟨sr, sf, sw⟩ := s
  simp only at hz1 hz2 h
  rw [dRaw_eq]
  simp only
  rcases h with ⟨rfl, rfl, rfl, rfl⟩ | ⟨rfl, rfl, rfl⟩ | ⟨rfl, rfl⟩
  · have hsz := ext_size zs za
    by_cases hl : zs.size < za + 8
    · obtain ⟨h1, h2, h3⟩ := rLv_short zs 8 za hz1 hl
      have hlt : ¬ 8 ≤ (zs.extract za zs.size).size := by omega
      refine ⟨⟨⟨by rw [h3]; exact h2, by rw [h3]; exact hz2⟩, .inr (.inl ⟨h1, rfl, ?_⟩)⟩, fun h => absurd (h1.symm.trans h) two_ne⟩
      show takeF (zs.extract za zs.size) 0 8 = 2
      unfold takeF; rw [if_pos rfl, if_neg hlt]
    · have e := rLv_ok zs 8 za (by omega)
      have hle : 8 ≤ (zs.extract za zs.size).size := by omega
      have e0 : (zs.extract za zs.size).extract 0 8 = zs.extract za (za + 8) := by rw [ext_two zs za 0 8 (Nat.zero_le _) (by omega), Nat.add_zero]
      have e1 : (zs.extract za zs.size).extract 8 (zs.extract za zs.size).size = zs.extract (za + 8) zs.size := by
        rw [hsz, ext_two zs za 8 _ (by omega) (by omega)]
        congr 1
        omega
      rw [e]
      refine ⟨⟨⟨by simp only; omega, hz2⟩, .inl ⟨rfl, rfl, ?_, ?_⟩⟩, fun _ => ?_⟩
      · show takeF (zs.extract za zs.size) 0 8 = 0
        unfold takeF; rw [if_pos rfl, if_pos hle]
      · show takeR (zs.extract za zs.size) 0 8 = zs.extract (za + 8) zs.size
        unfold takeR; rw [if_pos ⟨rfl, hle⟩, e1]
      · show lvOf (takeT (zs.extract za zs.size) 0 8) = _
        unfold takeT; rw [if_pos ⟨rfl, hle⟩, e0, lvOf_list, Lib.extract_data, show za + 8 - za = 8 by omega]
  · rw [rLv_stay 8 (z := ⟨zs, za, 2⟩) two_ne]
    refine ⟨⟨⟨hz1, hz2⟩, .inr (.inl ⟨rfl, rfl, ?_⟩)⟩, fun h => absurd h two_ne⟩
    show takeF sr 2 8 = 2
    unfold takeF; rw [if_neg two_ne]
  · rw [rLv_stay 8 (z := ⟨zs, za, 4⟩) four_ne]
    exact ⟨⟨⟨hz1, hz2⟩, .inr (.inr ⟨rfl, rfl⟩)⟩, fun h => absurd h four_ne⟩
end Go.Proofs.YtodajejjhfpdmaaDoor


namespace Go.Proofs.YtodajejjhfpdmaaDoor
open Go.RowKit Go.Instr

/-- The document's reading of a view, onto the members and lives that are there. -/
def rView (z : Zs) : Zs × (Nat × List Mem × Lv) :=
  let a := rNum z 4
  let n := rNum a.1 1
  let m := rMems n.2 (rMust n.1 (decide (n.2 ≤ 8))) []
  let t := rLv 8 m.1
  (t.1, (a.2, m.2, lvOfL t.2))
def rEntries (z : Zs) : Zs × List Ent := rEnts (rNum z 1).2 (rMust (rNum z 1).1 (decide ((rNum z 1).2 ≤ 16))) []
theorem rMems_err (n : Nat) : ∀ {z : Zs} {l : List Mem}, (rMems n z l).1.err = 0 → z.err = 0 := by
  induction n with
  | zero => intro z l h; exact h
  | succ n ih =>
    intro z l h
    by_cases he : z.err = 0
    · exact he
    · have e : rMems (n + 1) z l = (z, l) := by show (if z.err = 0 then _ else _) = _; rw [if_neg he]
      rw [e] at h
      exact h
theorem rMems_stay (n : Nat) {z : Zs} {l : List Mem} (he : z.err ≠ 0) : rMems n z l = (z, l) := by
  cases n with
  | zero => rfl
  | succ n => show (if z.err = 0 then _ else _) = _; rw [if_neg he]
theorem rEnts_stay (n : Nat) {z : Zs} {l : List Ent} (he : z.err ≠ 0) : rEnts n z l = (z, l) := by
  cases n with
  | zero => rfl
  | succ n => show (if z.err = 0 then _ else _) = _; rw [if_neg he]
theorem rel_stay_mems (n : Nat) : ∀ {z : Zs} {s : Sd}, z.err ≠ 0 → Rel z s → Rel z (dMems s n).2 := by
  intro z s he h
  have := (rel_mems n z s [] h).1
  rw [rMems_stay n he] at this
  exact this
theorem rel_stay_ents (n : Nat) : ∀ {z : Zs} {s : Sd}, z.err ≠ 0 → Rel z s → Rel z (dEnts s n).2 := by
  intro z s he h
  have := (rel_ents n z s [] h).1
  rw [rEnts_stay n he] at this
  exact this
/-- The two counts: behind them the states are related, and where there is no error the counts are one. -/
theorem rel_count {z : Zs} {s : Sd} (m : Nat) (h : Rel z s) :
    Rel (rMust (rNum z 1).1 (decide ((rNum z 1).2 ≤ m))) (dCount m s).2 ∧ ((rMust (rNum z 1).1 (decide ((rNum z 1).2 ≤ m))).err = 0 → (dCount m s).1 = (rNum z 1).2) := by
  obtain ⟨h1, h2, h3⟩ := rel_num (k := 1) (.inl rfl) h
  by_cases hm : m < (dNum 1 s).1
  · have e : dCount m s = (0, (dNum 1 s).2.ck false) := by unfold dCount dOne; rw [if_pos hm]
    rw [e]
    have hc : Rel (rMust (rNum z 1).1 (decide ((rNum z 1).2 ≤ m))) ((dNum 1 s).2.ck false) := rel_must h1 (fun h => by
      rw [← h2 h]
      simp
      omega) (fun h => by
      have := h3 h
      omega)
    refine ⟨hc, fun h => ?_⟩
    have h0 := rMust_err h
    unfold rMust at h
    rw [if_pos ⟨h0, by rw [← h2 h0]; simp; omega⟩] at h
    exact absurd h four_ne
  · have e : dCount m s = ((dNum 1 s).1, (dNum 1 s).2) := by unfold dCount dOne; rw [if_neg hm]
    rw [e]
    have hck : (dNum 1 s).2.ck true = (dNum 1 s).2 := by simp [Sd.ck]
    have hc := rel_must (b := decide ((rNum z 1).2 ≤ m)) (c := true) h1 (fun h => by
      rw [← h2 h]
      simp
      omega) (fun _ => rfl)
    rw [hck] at hc
    exact ⟨hc, fun h => h2 (rMust_err h)⟩
theorem rel_view {z : Zs} {s : Sd} (h : Rel z s) : Rel (rView z).1 (dView s).2 ∧ ((rView z).1.err = 0 → (dView s).1 = (rView z).2) := by
  obtain ⟨h1, e1, _⟩ := rel_num (k := 4) (.inr rfl) h
  obtain ⟨h2, e2⟩ := rel_count 8 h1
  have hV : (dView s) = (((dNum 4 s).1, (dMems (dCount 8 (dNum 4 s).2).2 (dCount 8 (dNum 4 s).2).1).1, lvOf (dRaw 8 (dMems (dCount 8 (dNum 4 s).2).2 (dCount 8 (dNum 4 s).2).1).2).1), (dRaw 8 (dMems (dCount 8 (dNum 4 s).2).2 (dCount 8 (dNum 4 s).2).1).2).2) := rfl
  have hR : rView z = ((rLv 8 (rMems (rNum (rNum z 4).1 1).2 (rMust (rNum (rNum z 4).1 1).1 (decide ((rNum (rNum z 4).1 1).2 ≤ 8))) []).1).1, ((rNum z 4).2, (rMems (rNum (rNum z 4).1 1).2 (rMust (rNum (rNum z 4).1 1).1 (decide ((rNum (rNum z 4).1 1).2 ≤ 8))) []).2, lvOfL (rLv 8 (rMems (rNum (rNum z 4).1 1).2 (rMust (rNum (rNum z 4).1 1).1 (decide ((rNum (rNum z 4).1 1).2 ≤ 8))) []).1).2)) := rfl
  rw [hV, hR]
  simp only
  clear hV hR
  generalize dCount 8 (dNum 4 s).2 = dc at h2 e2 ⊢
  generalize hz1 : rMust (rNum (rNum z 4).1 1).1 (decide ((rNum (rNum z 4).1 1).2 ≤ 8)) = z1 at h2 e2 ⊢
  generalize hrn : (rNum (rNum z 4).1 1).2 = rn at e2 ⊢
  by_cases he : z1.err = 0
  · have hn := e2 he
    rw [← hn]
    obtain ⟨h3, e3⟩ := rel_mems dc.1 z1 dc.2 [] h2
    obtain ⟨h4, e4⟩ := rel_lives h3
    refine ⟨h4, fun h => ?_⟩
    have f4 := e4 h
    have f3 := (e3 (rLv_err 8 h)).1
    have hz : (rNum (rNum z 4).1 1).1.err = 0 := by rw [← hz1] at he; exact rMust_err he
    have f1 := e1 (rNum_err hz)
    rw [f1, f4, f3]
    simp
  · rw [rMems_stay rn he]
    have h3 := rel_stay_mems dc.1 he h2
    obtain ⟨h4, _⟩ := rel_lives h3
    exact ⟨h4, fun h => absurd (rLv_err 8 h) he⟩
theorem rel_entries {z : Zs} {s : Sd} (h : Rel z s) : Rel (rEntries z).1 (dEntries s).2 ∧ ((rEntries z).1.err = 0 → (dEntries s).1 = (rEntries z).2) := by
  obtain ⟨h2, e2⟩ := rel_count 16 h
  have hV : dEntries s = dEnts (dCount 16 s).2 (dCount 16 s).1 := rfl
  have hR : rEntries z = rEnts (rNum z 1).2 (rMust (rNum z 1).1 (decide ((rNum z 1).2 ≤ 16))) [] := rfl
  rw [hV, hR]
  clear hV hR
  generalize dCount 16 s = dc at h2 e2 ⊢
  generalize rMust (rNum z 1).1 (decide ((rNum z 1).2 ≤ 16)) = z1 at h2 e2 ⊢
  generalize (rNum z 1).2 = rn at e2 ⊢
  by_cases he : z1.err = 0
  · have hn := e2 he
    rw [← hn]
    obtain ⟨h3, e3⟩ := rel_ents dc.1 z1 dc.2 [] h2
    exact ⟨h3, fun h => by rw [(e3 h).1]; simp⟩
  · rw [rEnts_stay rn he]
    exact ⟨rel_stay_ents dc.1 he h2, fun h => absurd h he⟩
end Go.Proofs.YtodajejjhfpdmaaDoor


namespace Go.Proofs.YtodajejjhfpdmaaDoor
open Go.RowKit Go.Instr

/-- The document's reading of one field, by the program's letter. -/
def rField (c : Nat) (f : Fr) (z : Zs) : Fr × Zs :=
  if c = 69 then ({ f with epoch := (rNum z 4).2 }, (rNum z 4).1)
  else if c = 75 then ({ f with key := (rKey z).2 }, (rKey z).1)
  else if c = 84 then ({ f with sn := (rStamp z).2.1, sb := (rStamp z).2.2.1, sl := (rStamp z).2.2.2 }, (rStamp z).1)
  else if c = 86 then ({ f with has := (rVal z).2.1, text := (rVal z).2.2 }, (rVal z).1)
  else if c = 77 then ({ f with rmw := (rBit z).2 }, (rBit z).1)
  else if c = 68 then ({ f with dir := (rNum z 1).2 }, (rNum z 1).1)
  else if c = 70 then ({ f with flag := (rBit z).2 }, (rBit z).1)
  else if c = 76 then ({ f with life := (rNum z 1).2 }, (rNum z 1).1)
  else if c = 82 then ({ f with req := (rNum z 4).2 }, (rNum z 4).1)
  else if c = 87 then ({ f with ve := (rView z).2.1, ms := (rView z).2.2.1, lv := (rView z).2.2.2 }, (rView z).1)
  else if c = 66 then ({ f with bn := (rMark z).2.1, bb := (rMark z).2.2 }, (rMark z).1)
  else if c = 83 then ({ f with slot := (rNum z 4).2 }, (rNum z 4).1)
  else if c = 78 then ({ f with es := (rEntries z).2 }, (rEntries z).1)
  else if c = 67 then ({ f with cmd := (rCmd z).2 }, (rCmd z).1)
  else (f, z)
theorem rel_one {z : Zs} {s : Sd} (h : Rel z s) : Rel (rNum z 1).1 (dOne s).2 ∧ ((rNum z 1).1.err = 0 → (dOne s).1 = (rNum z 1).2) := ⟨(rel_num (.inl rfl) h).1, (rel_num (.inl rfl) h).2.1⟩
theorem rel_four {z : Zs} {s : Sd} (h : Rel z s) : Rel (rNum z 4).1 (dFour s).2 ∧ ((rNum z 4).1.err = 0 → (dFour s).1 = (rNum z 4).2) := ⟨(rel_num (.inr rfl) h).1, (rel_num (.inr rfl) h).2.1⟩
theorem rel_field (c : Nat) (hc : c ∈ l14) (f : Fr) {z : Zs} {s : Sd} (h : Rel z s) : Rel (rField c f z).2 (dField c f s).2 ∧ ((rField c f z).2.err = 0 → (dField c f s).1 = (rField c f z).1) := by
  simp only [l14, List.mem_cons, List.not_mem_nil, or_false] at hc
  rcases hc with rfl | rfl | rfl | rfl | rfl | rfl | rfl | rfl | rfl | rfl | rfl | rfl | rfl | rfl
  · obtain ⟨h1, e⟩ := rel_four h
    exact ⟨h1, fun h => by show ({ f with epoch := (dFour s).1 } : Fr) = { f with epoch := (rNum z 4).2 }; rw [e h]⟩
  · obtain ⟨h1, e⟩ := rel_key h
    exact ⟨h1, fun h => by show ({ f with key := (dKey s).1 } : Fr) = { f with key := (rKey z).2 }; rw [e h]⟩
  · obtain ⟨h1, e⟩ := rel_stamp h
    exact ⟨h1, fun h => by show ({ f with sn := (dStamp s).1.1, sb := (dStamp s).1.2.1, sl := (dStamp s).1.2.2 } : Fr) = { f with sn := (rStamp z).2.1, sb := (rStamp z).2.2.1, sl := (rStamp z).2.2.2 }; rw [e h]⟩
  · obtain ⟨h1, e⟩ := rel_val h
    exact ⟨h1, fun h => by show ({ f with has := (dValue s).1.1, text := (dValue s).1.2 } : Fr) = { f with has := (rVal z).2.1, text := (rVal z).2.2 }; rw [e h]⟩
  · obtain ⟨h1, e⟩ := rel_flag h
    exact ⟨h1, fun h => by show ({ f with rmw := (dFlag s).1 } : Fr) = { f with rmw := (rBit z).2 }; rw [e h]⟩
  · obtain ⟨h1, e⟩ := rel_one h
    exact ⟨h1, fun h => by show ({ f with dir := (dOne s).1 } : Fr) = { f with dir := (rNum z 1).2 }; rw [e h]⟩
  · obtain ⟨h1, e⟩ := rel_flag h
    exact ⟨h1, fun h => by show ({ f with flag := (dFlag s).1 } : Fr) = { f with flag := (rBit z).2 }; rw [e h]⟩
  · obtain ⟨h1, e⟩ := rel_one h
    exact ⟨h1, fun h => by show ({ f with life := (dOne s).1 } : Fr) = { f with life := (rNum z 1).2 }; rw [e h]⟩
  · obtain ⟨h1, e⟩ := rel_four h
    exact ⟨h1, fun h => by show ({ f with req := (dFour s).1 } : Fr) = { f with req := (rNum z 4).2 }; rw [e h]⟩
  · obtain ⟨h1, e⟩ := rel_view h
    exact ⟨h1, fun h => by show ({ f with ve := (dView s).1.1, ms := (dView s).1.2.1, lv := (dView s).1.2.2 } : Fr) = { f with ve := (rView z).2.1, ms := (rView z).2.2.1, lv := (rView z).2.2.2 }; rw [e h]⟩
  · obtain ⟨h1, e⟩ := rel_mark h
    exact ⟨h1, fun h => by show ({ f with bn := (dMark s).1.1, bb := (dMark s).1.2 } : Fr) = { f with bn := (rMark z).2.1, bb := (rMark z).2.2 }; rw [e h]⟩
  · obtain ⟨h1, e⟩ := rel_four h
    exact ⟨h1, fun h => by show ({ f with slot := (dFour s).1 } : Fr) = { f with slot := (rNum z 4).2 }; rw [e h]⟩
  · obtain ⟨h1, e⟩ := rel_entries h
    exact ⟨h1, fun h => by show ({ f with es := (dEntries s).1 } : Fr) = { f with es := (rEntries z).2 }; rw [e h]⟩
  · obtain ⟨h1, e⟩ := rel_cmd h
    exact ⟨h1, fun h => by show ({ f with cmd := (dCmd s).1 } : Fr) = { f with cmd := (rCmd z).2 }; rw [e h]⟩
theorem rStamp_stay {z : Zs} (h : z.err ≠ 0) : (rStamp z).1 = z := by
  unfold rStamp
  simp only
  rw [rMark_stay h, rNum_stay h]
theorem rKey_stay {z : Zs} (h : z.err ≠ 0) : (rKey z).1 = z := by
  unfold rKey
  simp only
  rw [rNum_stay h, rMust_stay h]
theorem rVal_stay {z : Zs} (h : z.err ≠ 0) : (rVal z).1 = z := by
  unfold rVal
  simp only
  rw [rBit_stay h, rNum_stay h]
  unfold rText
  rw [if_neg h]
theorem rView_stay {z : Zs} (h : z.err ≠ 0) : (rView z).1 = z := by
  unfold rView
  simp only
  rw [rNum_stay h, rNum_stay h, rMust_stay h, rMems_stay _ h]
  exact rLv_stay 8 h
theorem rEntries_stay {z : Zs} (h : z.err ≠ 0) : (rEntries z).1 = z := by
  unfold rEntries
  rw [rNum_stay h, rMust_stay h, rEnts_stay _ h]
theorem rField_stay (c : Nat) (hc : c ∈ l14) (f : Fr) {z : Zs} (h : z.err ≠ 0) : (rField c f z).2 = z := by
  simp only [l14, List.mem_cons, List.not_mem_nil, or_false] at hc
  rcases hc with rfl | rfl | rfl | rfl | rfl | rfl | rfl | rfl | rfl | rfl | rfl | rfl | rfl | rfl
  · rw [show (rField 69 f z).2 = (rNum z 4).1 by simp [rField]]; exact rNum_stay h
  · rw [show (rField 75 f z).2 = (rKey z).1 by simp [rField]]; exact rKey_stay h
  · rw [show (rField 84 f z).2 = (rStamp z).1 by simp [rField]]; exact rStamp_stay h
  · rw [show (rField 86 f z).2 = (rVal z).1 by simp [rField]]; exact rVal_stay h
  · rw [show (rField 77 f z).2 = (rBit z).1 by simp [rField]]; exact rBit_stay h
  · rw [show (rField 68 f z).2 = (rNum z 1).1 by simp [rField]]; exact rNum_stay h
  · rw [show (rField 70 f z).2 = (rBit z).1 by simp [rField]]; exact rBit_stay h
  · rw [show (rField 76 f z).2 = (rNum z 1).1 by simp [rField]]; exact rNum_stay h
  · rw [show (rField 82 f z).2 = (rNum z 4).1 by simp [rField]]; exact rNum_stay h
  · rw [show (rField 87 f z).2 = (rView z).1 by simp [rField]]; exact rView_stay h
  · rw [show (rField 66 f z).2 = (rMark z).1 by simp [rField]]; exact rMark_stay h
  · rw [show (rField 83 f z).2 = (rNum z 4).1 by simp [rField]]; exact rNum_stay h
  · rw [show (rField 78 f z).2 = (rEntries z).1 by simp [rField]]; exact rEntries_stay h
  · rw [show (rField 67 f z).2 = (rCmd z).1 by simp [rField]]; exact rCmd_stay h
def rFlds : List Nat → Fr → Zs → Fr × Zs
  | [], f, z => (f, z)
  | c :: l, f, z => if z.err = 0 then rFlds l (rField c f z).1 (rField c f z).2 else (f, z)
theorem rFlds_stay (l : List Nat) (f : Fr) {z : Zs} (h : z.err ≠ 0) : rFlds l f z = (f, z) := by
  cases l with
  | nil => rfl
  | cons c l => show (if z.err = 0 then _ else _) = _; rw [if_neg h]
theorem rel_flds (l : List Nat) (hl : ∀ c ∈ l, c ∈ l14) : ∀ (f f' : Fr) (z : Zs) (s : Sd), Rel z s → (z.err = 0 → f' = f) →
    Rel (rFlds l f z).2 (dFlds l f' s).2 ∧ ((rFlds l f z).2.err = 0 → (dFlds l f' s).1 = (rFlds l f z).1) := by
  induction l with
  | nil => intro f f' z s h he; exact ⟨h, he⟩
  | cons c l ih =>
    intro f f' z s h he
    have hc := hl c (by simp)
    have ih' := ih (fun x hx => hl x (by simp [hx]))
    obtain ⟨h1, e1⟩ := rel_field c hc f' h
    have ed : dFlds (c :: l) f' s = if (dField c f' s).2.wr = true then dField c f' s else dFlds l (dField c f' s).1 (dField c f' s).2 := rfl
    rw [ed]
    by_cases hz : z.err = 0
    · have hff := he hz
      subst hff
      have er : rFlds (c :: l) f' z = rFlds l (rField c f' z).1 (rField c f' z).2 := by show (if z.err = 0 then _ else _) = _; rw [if_pos hz]
      rw [er]
      by_cases hw : (dField c f' s).2.wr = true
      · rw [if_pos hw]
        have h4 : (rField c f' z).2.err = 4 := by
          rcases h1.2 with ⟨_, hh, _⟩ | ⟨_, hh, _⟩ | ⟨hh, _⟩
          · rw [hw] at hh; cases hh
          · rw [hw] at hh; cases hh
          · exact hh
        have hne : (rField c f' z).2.err ≠ 0 := by rw [h4]; exact four_ne
        rw [rFlds_stay l _ hne]
        exact ⟨h1, fun h => absurd h hne⟩
      · rw [if_neg hw]
        exact ih' _ _ _ _ h1 e1
    · have er : rFlds (c :: l) f z = (f, z) := rFlds_stay _ _ hz
      rw [er]
      rw [rField_stay c hc f' hz] at h1
      by_cases hw : (dField c f' s).2.wr = true
      · rw [if_pos hw]
        exact ⟨h1, fun h => absurd h hz⟩
      · rw [if_neg hw]
        have := (ih' f (dField c f' s).1 z _ h1 (fun h => absurd h hz)).1
        rw [rFlds_stay l f hz] at this
        exact ⟨this, fun h => absurd h hz⟩
/-- The document's frame of a text without its checksum, and the error. -/
def rDecT (t : ByteArray) : Fr × Int :=
  let a := rNum ⟨t, 0, 0⟩ 1
  let b := rNum a.1 1
  let c := rNum b.1 1
  let p := rFlds (letK a.2) { fr0 with kind := a.2, frm := b.2, dest := c.2 } (rMust c.1 (knownB a.2))
  if p.2.err = 0 then if p.2.at_ < p.2.s.size then (fr0, 3) else (p.1, 0) else (fr0, p.2.err)
theorem ext_all (t : ByteArray) : t.extract 0 t.size = t := by
  apply Go.WideShapes.bytes_inj
  rw [Lib.extract_data]
  have hl : t.data.toList.length = t.size := rfl
  rw [List.drop_zero, Nat.sub_zero]
  exact List.take_of_length_le (by omega)
theorem endF_two (r : ByteArray) : endF r 0 ≠ 2 := by
  unfold endF
  rw [if_pos rfl]
  split <;> decide
/-- The program's reading of a frame is the document's. -/
theorem decT_eq (t : ByteArray) (ht : t.size ≤ 1000000) : decT t = rDecT t := by
  have h0 : Rel ⟨t, 0, 0⟩ ⟨t, 0, false⟩ := ⟨⟨Nat.zero_le _, ht⟩, .inl ⟨rfl, rfl, rfl, (ext_all t).symm⟩⟩
  obtain ⟨h1, e1⟩ := rel_one h0
  obtain ⟨h2, e2⟩ := rel_one h1
  obtain ⟨h3, e3⟩ := rel_one h2
  have hw : (dHead ⟨t, 0, false⟩).2.wr = false := rfl
  have hD : (dHead ⟨t, 0, false⟩) = (((dOne ⟨t, 0, false⟩).1, (dOne (dOne ⟨t, 0, false⟩).2).1, (dOne (dOne (dOne ⟨t, 0, false⟩).2).2).1), (dOne (dOne (dOne ⟨t, 0, false⟩).2).2).2) := rfl
  have hR : rDecT t = (if (rFlds (letK (rNum ⟨t, 0, 0⟩ 1).2) { fr0 with kind := (rNum ⟨t, 0, 0⟩ 1).2, frm := (rNum (rNum ⟨t, 0, 0⟩ 1).1 1).2, dest := (rNum (rNum (rNum ⟨t, 0, 0⟩ 1).1 1).1 1).2 } (rMust (rNum (rNum (rNum ⟨t, 0, 0⟩ 1).1 1).1 1).1 (knownB (rNum ⟨t, 0, 0⟩ 1).2))).2.err = 0 then if (rFlds (letK (rNum ⟨t, 0, 0⟩ 1).2) { fr0 with kind := (rNum ⟨t, 0, 0⟩ 1).2, frm := (rNum (rNum ⟨t, 0, 0⟩ 1).1 1).2, dest := (rNum (rNum (rNum ⟨t, 0, 0⟩ 1).1 1).1 1).2 } (rMust (rNum (rNum (rNum ⟨t, 0, 0⟩ 1).1 1).1 1).1 (knownB (rNum ⟨t, 0, 0⟩ 1).2))).2.at_ < (rFlds (letK (rNum ⟨t, 0, 0⟩ 1).2) { fr0 with kind := (rNum ⟨t, 0, 0⟩ 1).2, frm := (rNum (rNum ⟨t, 0, 0⟩ 1).1 1).2, dest := (rNum (rNum (rNum ⟨t, 0, 0⟩ 1).1 1).1 1).2 } (rMust (rNum (rNum (rNum ⟨t, 0, 0⟩ 1).1 1).1 1).1 (knownB (rNum ⟨t, 0, 0⟩ 1).2))).2.s.size then (fr0, 3) else ((rFlds (letK (rNum ⟨t, 0, 0⟩ 1).2) { fr0 with kind := (rNum ⟨t, 0, 0⟩ 1).2, frm := (rNum (rNum ⟨t, 0, 0⟩ 1).1 1).2, dest := (rNum (rNum (rNum ⟨t, 0, 0⟩ 1).1 1).1 1).2 } (rMust (rNum (rNum (rNum ⟨t, 0, 0⟩ 1).1 1).1 1).1 (knownB (rNum ⟨t, 0, 0⟩ 1).2))).1, 0) else (fr0, (rFlds (letK (rNum ⟨t, 0, 0⟩ 1).2) { fr0 with kind := (rNum ⟨t, 0, 0⟩ 1).2, frm := (rNum (rNum ⟨t, 0, 0⟩ 1).1 1).2, dest := (rNum (rNum (rNum ⟨t, 0, 0⟩ 1).1 1).1 1).2 } (rMust (rNum (rNum (rNum ⟨t, 0, 0⟩ 1).1 1).1 1).1 (knownB (rNum ⟨t, 0, 0⟩ 1).2))).2.err)) := rfl
  rw [hR]
  clear hR
  unfold decT headF
  rw [hD] at hw ⊢
  simp only at hw ⊢
  clear hD
  generalize dOne (dOne (dOne ⟨t, 0, false⟩).2).2 = d3 at h3 e3 hw ⊢
  generalize dOne (dOne ⟨t, 0, false⟩).2 = d2 at h2 e2 ⊢
  generalize dOne ⟨t, 0, false⟩ = d1 at h1 e1 ⊢
  have er1 : (rNum (rNum ⟨t, 0, 0⟩ 1).1 1).1.err = 0 → (rNum ⟨t, 0, 0⟩ 1).1.err = 0 := rNum_err
  have er2 : (rNum (rNum (rNum ⟨t, 0, 0⟩ 1).1 1).1 1).1.err = 0 → (rNum (rNum ⟨t, 0, 0⟩ 1).1 1).1.err = 0 := rNum_err
  generalize rNum (rNum (rNum ⟨t, 0, 0⟩ 1).1 1).1 1 = r3 at h3 e3 er2 ⊢
  generalize rNum (rNum ⟨t, 0, 0⟩ 1).1 1 = r2 at h2 e2 er1 er2 ⊢
  generalize rNum ⟨t, 0, 0⟩ 1 = r1 at h1 e1 er1 ⊢
  clear h0 h1 h2
  by_cases hz : r3.1.err = 0
  · have f3 := e3 hz
    have f2 := e2 (er2 hz)
    have f1 := e1 (er1 (er2 hz))
    rw [← f1, ← f2, ← f3]
    have hf0 : d3.2.f = 0 := by
      rcases h3.2 with ⟨_, _, hh, _⟩ | ⟨hh, _⟩ | ⟨hh, _⟩
      · exact hh
      · rw [hz] at hh; exact absurd hh (by decide)
      · rw [hz] at hh; exact absurd hh (by decide)
    rw [hf0, if_neg (endF_two _)]
    by_cases hk : knownB d1.1 = true
    · rw [if_neg (by rw [hk]; decide)]
      have hm : rMust r3.1 (knownB d1.1) = r3.1 := by unfold rMust; rw [if_neg (fun h => by rw [hk] at h; exact absurd h.2 (by decide))]
      rw [hm]
      obtain ⟨h4, e4⟩ := rel_flds (letK d1.1) (letK_in _) { fr0 with kind := d1.1, frm := d2.1, dest := d3.1 } { fr0 with kind := d1.1, frm := d2.1, dest := d3.1 } r3.1 d3.2 h3 (fun _ => rfl)
      generalize dFlds (letK d1.1) { fr0 with kind := d1.1, frm := d2.1, dest := d3.1 } d3.2 = P at h4 e4 ⊢
      generalize rFlds (letK d1.1) { fr0 with kind := d1.1, frm := d2.1, dest := d3.1 } r3.1 = R at h4 e4 ⊢
      rcases h4 with ⟨⟨hk1, hk2⟩, ⟨g1, g2, g3, g4⟩ | ⟨g1, g2, g3⟩ | ⟨g1, g2⟩⟩
      · rw [if_neg (by rw [g2]; decide), if_pos g1, g3]
        have hsz : P.2.r.size = R.2.s.size - R.2.at_ := by rw [g4, ext_size]
        by_cases hlt : R.2.at_ < R.2.s.size
        · rw [if_pos hlt]
          have he : endF P.2.r 0 = 3 := by unfold endF; rw [if_pos rfl, if_neg (by omega)]
          rw [he, if_neg (by decide)]
        · rw [if_neg hlt]
          have he : endF P.2.r 0 = 0 := by unfold endF; rw [if_pos rfl, if_pos (by omega)]
          rw [he, if_pos rfl, e4 g1]
      · have hne : R.2.err ≠ 0 := by rw [g1]; exact two_ne
        rw [if_neg (by rw [g2]; decide), if_neg hne, g3, g1]
        have he : endF P.2.r 2 = 2 := by unfold endF; rw [if_neg two_ne]
        rw [he, if_neg two_ne]
      · have hne : R.2.err ≠ 0 := by rw [g1]; exact four_ne
        rw [if_pos g2, if_neg hne, g1]
    · simp only [Bool.not_eq_true] at hk
      rw [if_pos hk]
      have hm : (rMust r3.1 (knownB d1.1)).err = 4 := by unfold rMust; rw [if_pos ⟨hz, hk⟩]
      have hne : (rMust r3.1 (knownB d1.1)).err ≠ 0 := by rw [hm]; exact four_ne
      rw [rFlds_stay _ _ hne]
      simp only
      rw [if_neg hne, hm]
  · have h2 : r3.1.err = 2 ∧ d3.2.f = 2 := by
      rcases h3.2 with ⟨hh, _⟩ | ⟨hh, _, hf⟩ | ⟨_, hh⟩
      · exact absurd hh hz
      · exact ⟨hh, hf⟩
      · rw [hw] at hh; cases hh
    have he : endF d3.2.r d3.2.f = 2 := by rw [h2.2]; unfold endF; rw [if_neg two_ne]
    rw [if_pos he, rMust_stay hz, rFlds_stay _ _ hz]
    simp only
    rw [if_neg hz, h2.1]
end Go.Proofs.YtodajejjhfpdmaaDoor

