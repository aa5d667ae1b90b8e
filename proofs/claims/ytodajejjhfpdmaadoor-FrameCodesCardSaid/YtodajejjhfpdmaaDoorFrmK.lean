/-
  Frame's Encode.
-/
import Derived.Test.YtodajejjhfpdmaaDoorFrmJ
import Derived.Test.YtodajejjhfpdmaaDoorCrcO
namespace Go.Proofs.YtodajejjhfpdmaaDoor
open Go.RowKit Go.Instr

/-- The parts of one field, by its letter. -/
def fldP (f : Fr) (c : Nat) : List PartV :=
  if c = 69 then [n4 f.epoch]
  else if c = 75 then [n1 f.key]
  else if c = 84 then [n4 f.sn, n1 f.sb, n1 f.sl]
  else if c = 86 then [nB f.has, pT f.text]
  else if c = 77 then [nB f.rmw]
  else if c = 68 then [n1 f.dir]
  else if c = 70 then [nB f.flag]
  else if c = 76 then [n1 f.life]
  else if c = 82 then [n4 f.req]
  else if c = 87 then [n4 f.ve, n1 f.ms.length] ++ f.ms.flatMap pM ++ (lvL f.lv).map n1
  else if c = 66 then [n4 f.bn, n1 f.bb]
  else if c = 83 then [n4 f.slot]
  else if c = 78 then [n1 f.es.length] ++ f.es.flatMap pE
  else if c = 67 then [n1 f.cmd.k, n1 f.cmd.n, n1 f.cmd.l, n4 f.cmd.e, n4 f.cmd.r]
  else []
def partsF (f : Fr) : List PartV := [n1 f.kind, n1 f.frm, n1 f.dest] ++ (letK f.kind).flatMap (fldP f)
def bodyF (f : Fr) : ByteArray := joinS (partsF f)
/-- What Encode answers. -/
def encS (f : Fr) : ByteArray := if validF f = true then bodyF f ++ sealB (bodyF f) else ⟨#[]⟩
def encE (f : Fr) : Int := if validF f = true then 0 else 4
theorem field_any (base E : Nat) (ps : List PartV) (v : Value) (a1 a2 : Option Addr) (c1 c2 c : Nat) (f : Fr) (w : World) (hc : c ∈ l14) (h : EncAt base E w ps v) (hE : E < base) (hb : base ≤ w.heap.size) (hl : ps.length ≤ 100) (hf : f.fine) (hfit : fitsF f c = true)
    (hs1 : MemsAt w (.slice a1 f.ms.length c1) f.ms) (ha1 : ∀ b off, a1 = some ⟨b, off, none⟩ → b < base ∧ b ≠ E) (hs2 : EntsAt w (.slice a2 f.es.length c2) f.es) (ha2 : ∀ b off, a2 = some ⟨b, off, none⟩ → b < base ∧ b ≠ E) :
    Calls Tryd.prog 20 #[.pointer (some ⟨E, 0, none⟩), .agg (frC f (.slice a1 f.ms.length c1) (.slice a2 f.es.length c2)), .int .i32 c] w (EncP base E w (ps ++ fldP f c)) := by
  simp only [l14, List.mem_cons, List.not_mem_nil, or_false] at hc
  rcases hc with rfl | rfl | rfl | rfl | rfl | rfl | rfl | rfl | rfl | rfl | rfl | rfl | rfl | rfl
  · exact field_E base E ps v _ _ f w h hE hb hl hf
  · exact field_K base E ps v _ _ f w h hE hb hl hf
  · exact field_T base E ps v _ _ f w h hE hb hl hf
  · exact field_V base E ps v _ _ f w h hE hb hl hf
  · exact field_M base E ps v _ _ f w h hE hb hl hf
  · exact field_D base E ps v _ _ f w h hE hb hl hf
  · exact field_F base E ps v _ _ f w h hE hb hl hf
  · exact field_L base E ps v _ _ f w h hE hb hl hf
  · exact field_R base E ps v _ _ f w h hE hb hl hf
  · have hn : f.ms.length ≤ 8 := by simpa [fitsF] using hfit
    have h1 := field_W base E ps v (.slice a2 f.es.length c2) a1 c1 f w h hE hb hl hf hn hs1 ha1
    rw [show ps ++ fldP f 87 = ps ++ [n4 f.ve, n1 f.ms.length] ++ f.ms.flatMap pM ++ (lvL f.lv).map n1 by simp [fldP]]
    exact h1
  · exact field_B base E ps v _ _ f w h hE hb hl hf
  · exact field_S base E ps v _ _ f w h hE hb hl hf
  · have hn : f.es.length ≤ 16 := by simpa [fitsF] using hfit
    have h1 := field_N base E ps v (.slice a1 f.ms.length c1) a2 c2 f w h hE hb hl hf hn hs2 ha2
    rw [show ps ++ fldP f 78 = ps ++ [n1 f.es.length] ++ f.es.flatMap pE by simp [fldP]]
    exact h1
  · exact field_C base E ps v _ _ f w h hE hb hl hf
theorem n1_fine (n : Nat) : (n1 n).fine := ⟨⟨(by show (0 : Int) ≤ 1; decide), (by show (1 : Int) ≤ 3; decide)⟩, Nat.zero_le _⟩
theorem n4_fine (n : Nat) : (n4 n).fine := ⟨⟨(by show (0 : Int) ≤ 1; decide), (by show (1 : Int) ≤ 3; decide)⟩, Nat.zero_le _⟩
theorem pT_fine (s : ByteArray) (h : s.size ≤ 1000) : (pT s).fine := ⟨⟨(by show (0 : Int) ≤ 2; decide), (by show (2 : Int) ≤ 3; decide)⟩, (by show s.size ≤ 2000; omega)⟩
theorem all_cons {P : PartV → Prop} {a : PartV} {l : List PartV} (h : P a) (k : ∀ p ∈ l, P p) : ∀ p ∈ a :: l, P p := List.forall_mem_cons.2 ⟨h, k⟩
theorem all_nil {P : PartV → Prop} : ∀ p ∈ ([] : List PartV), P p := fun _ h => by cases h
theorem all_app {P : PartV → Prop} {l k : List PartV} (h : ∀ p ∈ l, P p) (g : ∀ p ∈ k, P p) : ∀ p ∈ l ++ k, P p := List.forall_mem_append.2 ⟨h, g⟩
theorem all_flat {α : Type} {P : PartV → Prop} {l : List α} {f : α → List PartV} (h : ∀ x, ∀ p ∈ f x, P p) : ∀ p ∈ l.flatMap f, P p := fun p hp => by
  obtain ⟨x, _, hx⟩ := List.mem_flatMap.1 hp
  exact h x p hx
theorem all_map {P : PartV → Prop} {l : List Nat} {f : Nat → PartV} (h : ∀ x, P (f x)) : ∀ p ∈ l.map f, P p := fun p hp => by
  obtain ⟨x, _, rfl⟩ := List.mem_map.1 hp
  exact h x
theorem fldP_fine (f : Fr) (c : Nat) (ht : f.text.size ≤ 1000) : ∀ p ∈ fldP f c, p.fine := by
  by_cases e69 : c = 69
  · subst e69
    exact all_cons (n4_fine _) all_nil
  by_cases e75 : c = 75
  · subst e75
    exact all_cons (n1_fine _) all_nil
  by_cases e84 : c = 84
  · subst e84
    exact all_cons (n4_fine _) (all_cons (n1_fine _) (all_cons (n1_fine _) all_nil))
  by_cases e86 : c = 86
  · subst e86
    exact all_cons (n1_fine _) (all_cons (pT_fine _ ht) all_nil)
  by_cases e77 : c = 77
  · subst e77
    exact all_cons (n1_fine _) all_nil
  by_cases e68 : c = 68
  · subst e68
    exact all_cons (n1_fine _) all_nil
  by_cases e70 : c = 70
  · subst e70
    exact all_cons (n1_fine _) all_nil
  by_cases e76 : c = 76
  · subst e76
    exact all_cons (n1_fine _) all_nil
  by_cases e82 : c = 82
  · subst e82
    exact all_cons (n4_fine _) all_nil
  by_cases e87 : c = 87
  · subst e87
    exact all_app (all_app (all_cons (n4_fine _) (all_cons (n1_fine _) all_nil)) (all_flat fun x => all_cons (n1_fine _) (all_cons (n1_fine _) (all_cons (n1_fine _) all_nil)))) (all_map n1_fine)
  by_cases e66 : c = 66
  · subst e66
    exact all_cons (n4_fine _) (all_cons (n1_fine _) all_nil)
  by_cases e83 : c = 83
  · subst e83
    exact all_cons (n4_fine _) all_nil
  by_cases e78 : c = 78
  · subst e78
    exact all_app (all_cons (n1_fine _) all_nil) (all_flat fun x => all_app (all_cons (n4_fine _) (all_cons (n4_fine _) (all_cons (n1_fine _) all_nil))) (all_cons (n1_fine _) (all_cons (n1_fine _) (all_cons (n1_fine _) (all_cons (n4_fine _) (all_cons (n4_fine _) all_nil))))))
  by_cases e67 : c = 67
  · subst e67
    exact all_cons (n1_fine _) (all_cons (n1_fine _) (all_cons (n1_fine _) (all_cons (n4_fine _) (all_cons (n4_fine _) all_nil))))
  rw [show fldP f c = [] by unfold fldP; rw [if_neg e69, if_neg e75, if_neg e84, if_neg e86, if_neg e77, if_neg e68, if_neg e70, if_neg e76, if_neg e82, if_neg e87, if_neg e66, if_neg e83, if_neg e78, if_neg e67]]
  exact all_nil
theorem partsF_fine (f : Fr) (ht : f.text.size ≤ 1000) : ∀ p ∈ partsF f, p.fine := by
  have h1 := n1_fine
  intro p hp
  simp only [partsF, List.mem_append, List.mem_cons, List.not_mem_nil, or_false, List.mem_flatMap] at hp
  rcases hp with (rfl | rfl | rfl) | ⟨c, _, hp⟩
  · exact h1 _
  · exact h1 _
  · exact h1 _
  · exact fldP_fine f c ht p hp
theorem fldP_short (f : Fr) (c : Nat) (h1 : c ≠ 87) (h2 : c ≠ 78) : (fldP f c).length ≤ 5 := by
  by_cases e69 : c = 69
  · subst e69
    show _ ≤ 5; simp [fldP]
  by_cases e75 : c = 75
  · subst e75
    show _ ≤ 5; simp [fldP]
  by_cases e84 : c = 84
  · subst e84
    show _ ≤ 5; simp [fldP]
  by_cases e86 : c = 86
  · subst e86
    show _ ≤ 5; simp [fldP]
  by_cases e77 : c = 77
  · subst e77
    show _ ≤ 5; simp [fldP]
  by_cases e68 : c = 68
  · subst e68
    show _ ≤ 5; simp [fldP]
  by_cases e70 : c = 70
  · subst e70
    show _ ≤ 5; simp [fldP]
  by_cases e76 : c = 76
  · subst e76
    show _ ≤ 5; simp [fldP]
  by_cases e82 : c = 82
  · subst e82
    show _ ≤ 5; simp [fldP]
  by_cases e87 : c = 87
  · subst e87
    exact absurd rfl h1
  by_cases e66 : c = 66
  · subst e66
    show _ ≤ 5; simp [fldP]
  by_cases e83 : c = 83
  · subst e83
    show _ ≤ 5; simp [fldP]
  by_cases e78 : c = 78
  · subst e78
    exact absurd rfl h2
  by_cases e67 : c = 67
  · subst e67
    show _ ≤ 5; simp [fldP]
  rw [show fldP f c = [] by unfold fldP; rw [if_neg e69, if_neg e75, if_neg e84, if_neg e86, if_neg e77, if_neg e68, if_neg e70, if_neg e76, if_neg e82, if_neg e87, if_neg e66, if_neg e83, if_neg e78, if_neg e67]]
  exact Nat.zero_le _
theorem flat_short (f : Fr) (l : List Nat) (h : ∀ c ∈ l, c ≠ 87 ∧ c ≠ 78) : (l.flatMap (fldP f)).length ≤ 5 * l.length := by
  induction l with
  | nil => simp
  | cons c l ih =>
    have hc := h c (by simp)
    have := fldP_short f c hc.1 hc.2
    have := ih (fun x hx => h x (by simp [hx]))
    simp only [List.flatMap_cons, List.length_append, List.length_cons]
    omega
theorem letK_front (k pos : Nat) (h : pos < (letK k).length) : ∀ c ∈ (letK k).take pos, c ≠ 87 ∧ c ≠ 78 := by
  by_cases hk : k < 17
  · have all : ∀ k < 17, ∀ pos < 7, pos < (letK k).length → ∀ c ∈ (letK k).take pos, c ≠ 87 ∧ c ≠ 78 := by decide
    have h7 : pos < 7 := by
      have : ∀ k < 17, (letK k).length ≤ 6 := by decide
      have := this k hk
      omega
    exact all k hk pos h7 h
  · have : letK k = [] := by
      unfold letK
      split <;> first | omega | rfl
    rw [this] at h
    simp at h
theorem letK_len (k : Nat) : (letK k).length ≤ 6 := by
  by_cases hk : k < 17
  · have : ∀ k < 17, (letK k).length ≤ 6 := by decide
    exact this k hk
  · have : letK k = [] := by
      unfold letK
      split <;> first | omega | rfl
    rw [this]
    simp
theorem front_len (f : Fr) (pos : Nat) (h : pos < (letK f.kind).length) : ([n1 f.kind, n1 f.frm, n1 f.dest] ++ ((letK f.kind).take pos).flatMap (fldP f)).length ≤ 33 := by
  have h1 := flat_short f _ (letK_front f.kind pos h)
  have h2 := letK_len f.kind
  rw [List.length_take] at h1
  rw [List.length_append]
  show 3 + _ ≤ 33
  omega
theorem fldP_len (f : Fr) (c : Nat) (h : fitsF f c = true) : (fldP f c).length ≤ 200 := by
  by_cases h1 : c = 87
  · subst h1
    have hn : f.ms.length ≤ 8 := by simpa [fitsF] using h
    have hl : ∀ q : List Mem, (q.flatMap pM).length = q.length * 3 := fun q => by
      induction q with
      | nil => rfl
      | cons x q ih => simp only [List.flatMap_cons, List.length_append, ih, List.length_cons]; simp [pM]; omega
    show (([n4 f.ve, n1 f.ms.length] ++ f.ms.flatMap pM ++ (lvL f.lv).map n1) : List PartV).length ≤ 200
    simp only [List.length_append, hl, List.length_map]
    simp [lvL]
    omega
  · by_cases h2 : c = 78
    · subst h2
      have hn : f.es.length ≤ 16 := by simpa [fitsF] using h
      have hl : ∀ q : List Ent, (q.flatMap pE).length = q.length * 8 := fun q => by
        induction q with
        | nil => rfl
        | cons x q ih => simp only [List.flatMap_cons, List.length_append, ih, List.length_cons]; simp [pE, pC]; omega
      show (([n1 f.es.length] ++ f.es.flatMap pE) : List PartV).length ≤ 200
      simp only [List.length_append, hl]
      simp
      omega
    · have := fldP_short f c h1 h2
      omega
theorem partsF_len (f : Fr) (hfit : ∀ c ∈ letK f.kind, fitsF f c = true) : (partsF f).length ≤ 300 := by
  rcases Nat.eq_zero_or_pos (letK f.kind).length with h0 | h0
  · have : letK f.kind = [] := List.eq_nil_of_length_eq_zero h0
    simp [partsF, this]
  · have hlt : (letK f.kind).length - 1 < (letK f.kind).length := by omega
    have hs : letK f.kind = (letK f.kind).take ((letK f.kind).length - 1) ++ [(letK f.kind)[(letK f.kind).length - 1]] := by
      rw [← List.take_succ_eq_append_getElem hlt, List.take_of_length_le (by omega)]
    have h1 := front_len f _ hlt
    have h2 := fldP_len f _ (hfit _ (List.getElem_mem hlt))
    have e : partsF f = ([n1 f.kind, n1 f.frm, n1 f.dest] ++ ((letK f.kind).take ((letK f.kind).length - 1)).flatMap (fldP f)) ++ fldP f (letK f.kind)[(letK f.kind).length - 1] := by
      have h3 : (letK f.kind).flatMap (fldP f) = ((letK f.kind).take ((letK f.kind).length - 1) ++ [(letK f.kind)[(letK f.kind).length - 1]]).flatMap (fldP f) := congrArg (fun l => l.flatMap (fldP f)) hs
      unfold partsF
      rw [h3, List.flatMap_append, ← List.append_assoc]
      simp
    rw [e, List.length_append]
    omega
end Go.Proofs.YtodajejjhfpdmaaDoor
