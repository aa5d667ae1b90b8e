/-
  The walk of the reference's Records: the records with which a text begins, and where they end.
-/
import Derived.Test.YtobmfbafjpbkoaaJrnD
namespace Go.Proofs.Ytobmfbafjpbkoaa
open Go.RowKit Go.Instr

def RecLoop (w : World) (s : ByteArray) (g : Nat) (s4 s5 : Value) (wr : World) : Prop := ∃ (l : List ByteArray) (at_ : Nat) (r : ByteArray), s5 = .int .i64 at_ ∧ at_ = (frs l).size ∧ g = r.size ∧ s = frs l ++ r ∧ (∀ x ∈ l, okR x) ∧ l.length * 7 ≤ at_ ∧ strR.Own 9 wr w.heap.size s4 l ∧ Below w.heap.size w wr
def RecP (w : World) (s : ByteArray) (e : Ending) (w' : World) : Prop := ∃ v l r, e = .returned (.tuple #[v, .int .i64 ((frs l).size : Nat)]) ∧ strR.Own 9 w' w.heap.size v l ∧ IsRecs s l r ∧ Below w.heap.size w w'
theorem nat_at {s p x a : ByteArray} {at_ : Nat} (hp : p.size = at_) (hs : s = p ++ (fr x ++ a)) (hx : x.size < 65536) (h1 : at_ + 1 < s.size) :
    256 * (s[at_]'(by omega)).toNat + (s[at_ + 1]'h1).toNat = x.size := by
  subst hs
  subst hp
  have hl : (p ++ (fr x ++ a)).data.toList = p.data.toList ++ (UInt8.ofNat (x.size / 256) :: UInt8.ofNat x.size :: (x.data.toList ++ (sealB (body x)).data.toList ++ a.data.toList)) := by
    rw [bapp, bapp, fr_list]
    simp [beN, List.range, List.range.loop]
  have hpl : p.data.toList.length = p.size := rfl
  have e0 : (p ++ (fr x ++ a))[p.size]'(by omega) = UInt8.ofNat (x.size / 256) := by
    have : (p ++ (fr x ++ a)).data.toList[p.size]? = some (UInt8.ofNat (x.size / 256)) := by rw [hl, List.getElem?_append_right (by omega), hpl]; simp
    have h2 := List.getElem?_eq_some_iff.1 this
    obtain ⟨h3, h4⟩ := h2
    rw [← h4]; rfl
  have e1 : (p ++ (fr x ++ a))[p.size + 1]'h1 = UInt8.ofNat x.size := by
    have : (p ++ (fr x ++ a)).data.toList[p.size + 1]? = some (UInt8.ofNat x.size) := by rw [hl, List.getElem?_append_right (by omega), hpl]; simp
    have h2 := List.getElem?_eq_some_iff.1 this
    obtain ⟨h3, h4⟩ := h2
    rw [← h4]; rfl
  rw [e0, e1]
  simp
  omega
theorem ext_app (p m q : ByteArray) : (p ++ (m ++ q)).extract p.size (p.size + m.size) = m := by
  apply bext
  rw [Lib.extract_data, bapp, bapp, List.drop_left' (show p.data.toList.length = p.size from rfl)]
  rw [show p.size + m.size - p.size = m.size by omega]
  exact List.take_left' rfl
theorem text_at {s p x a : ByteArray} {at_ : Nat} (hp : p.size = at_) (hs : s = p ++ (fr x ++ a)) : s.extract (at_ + 2) (at_ + 2 + x.size) = x ∧ s.extract at_ (at_ + x.size + 6) = fr x := by
  subst hs; subst hp
  have h2 : (⟨(beN x.size 2).toArray⟩ : ByteArray).size = 2 := by
    show (beN x.size 2).toArray.size = 2
    simp [beN_len]
  refine ⟨?_, ?_⟩
  · have e : p ++ (fr x ++ a) = (p ++ ⟨(beN x.size 2).toArray⟩) ++ (x ++ (sealB (body x) ++ a)) := by
      apply bext; simp [bapp, fr, body]
    rw [e]
    have := ext_app (p ++ ⟨(beN x.size 2).toArray⟩) x (sealB (body x) ++ a)
    rw [ByteArray.size_append, h2] at this
    exact this
  · have := ext_app p (fr x) a
    rw [fr_size] at this
    rw [Nat.add_assoc]
    exact this
theorem begins_of {s p r : ByteArray} {at_ n : Nat} (hp : p.size = at_) (hs : s = p ++ r) (h1 : 1 ≤ n) (h2 : n ≤ 512) (hn : at_ + n + 6 ≤ s.size) (h : fr (s.extract (at_ + 2) (at_ + 2 + n)) = s.extract at_ (at_ + n + 6)) : Begins r := by
  have hz : (s.extract (at_ + 2) (at_ + 2 + n)).size = n := by simp [ByteArray.size_extract]; omega
  refine ⟨s.extract (at_ + 2) (at_ + 2 + n), s.extract (at_ + n + 6) s.size, ⟨by omega, by omega⟩, ?_⟩
  rw [h]
  subst hs; subst hp
  apply bext
  rw [bapp, Lib.extract_data, Lib.extract_data, bapp, List.drop_left' (show p.data.toList.length = p.size from rfl)]
  have e3 : (p.data.toList ++ r.data.toList).drop (p.size + n + 6) = r.data.toList.drop (n + 6) := by
    rw [show p.size + n + 6 = p.data.toList.length + (n + 6) by show _ = p.size + _; omega, List.drop_length_add_append]
  rw [e3, show p.size + n + 6 - p.size = n + 6 by omega]
  rw [List.take_of_length_le (l := r.data.toList.drop (n + 6)), List.take_append_drop]
  rw [List.length_drop, ByteArray.size_append]
  show r.size - _ ≤ _
  omega
theorem below_drN4 (w : World) (n : Nat) : Below w.heap.size w (w.drewN n) := ⟨rfl, rfl, rfl, Nat.le_refl _, fun _ _ => rfl⟩
theorem wrap_small (z : Int) (h : 0 ≤ z) (h2 : z < 1000000000) : wrap64 z = z := by unfold wrap64; omega
theorem wrap_num (b c n : Nat) (hb : b < 256) (hc : c < 256) (hn : 256 * b + c = n) : wrap64 (wrap64 (wrap64 (b : Int) * 256) + wrap64 (c : Int)) = (n : Int) := by
  rw [wrap_small b (by omega) (by omega), wrap_small c (by omega) (by omega), wrap_small ((b : Int) * 256) (by omega) (by omega), wrap_small _ (by omega) (by omega)]
  omega
set_option maxHeartbeats 4000000 in
set_option maxRecDepth 100000 in
theorem refRecords_any (s : ByteArray) (w : World) (hs : s.size ≤ 900000) : Calls Try.prog 24 #[.string s] w (RecP w s) := by
  obtain ⟨i0, hi, hz0, hz1, hz2⟩ := info_parts Try.info9
  have HI := Lib.hid (And.intro hi (And.intro hz0 (And.intro hz1 hz2)))
  clear hi hz0 hz1 hz2
  go_enter Try.func24, Try.ntmps24
  go_wp2
  go_loopg [4, 5] s.size (fun g s4 s5 wr => RecLoop w s g s4 s5 wr)
  case atStart => exact ⟨[], 0, s, rfl, rfl, rfl, (b_nil' s).symm, fun _ h => (by cases h), by simp, World.ownsRow_nil _ _ _ _, Below.refl _ _⟩
  case round => as_aux_lemma =>
    obtain ⟨l, at_, r, rfl, hat, hg, he, hok, hl7, ho, hB⟩ := hrel
    have hsz : s.size = at_ + r.size := by rw [he, ByteArray.size_append, ← hat]
    have HAT := Lib.hid hat
    have HG := Lib.hid hg
    have HE := Lib.hid he
    have HOK := Lib.hid hok
    have HO := Lib.hid ho
    have HB := Lib.hid hB
    have HSZ := Lib.hid hsz
    have hle : at_ ≤ s.size := by omega
    by_cases h2 : r.size < 2
    · have hnb : ¬ Begins r := not_begins_short (by omega)
      have hd : decide ((2 : Int) ≤ (s.size : Int) - (at_ : Int)) = false := by simp; omega
      clear hat hg he hok ho hB hsz
      have HNB := Lib.hid hnb
      clear hnb
      go_wp2
      exact bodyPost_ret (v := .tuple #[u4, .int .i64 at_]) (by simp [results, Try.results24, go_sem]) rfl ⟨_, l, r, by rw [HAT.out], HO.out, ⟨HE.out, HOK.out, HNB.out⟩, HB.out⟩
    · have hd : decide ((2 : Int) ≤ (s.size : Int) - (at_ : Int)) = true := by simp; omega
      have q1 : IntKind.i64.wrap ((at_ : Int) + 1) = (at_ : Int) + 1 := IntWalk.i64_in _ (by omega)
      have q2 : (0 : Int) ≤ (at_ : Int) + 1 := by omega
      have q3 : ((at_ : Int) + 1).toNat = at_ + 1 := by omega
      have i0' : at_ < s.size := by omega
      have i1' : at_ + 1 < s.size := by omega
      have j0 : (at_ : Int) < (s.size : Int) := by omega
      have j1 : (at_ : Int) + 1 < (s.size : Int) := by omega
      clear hat hg he hok ho hB
      have HSZ2 := Lib.hid hsz
      clear hsz
      obtain ⟨n, hn, hn2⟩ : ∃ n : Nat, 256 * (s[at_]'i0').toNat + (s[at_ + 1]'i1').toNat = n ∧ n < 65536 := ⟨_, rfl, by have := (s[at_]'i0').toNat_lt; have := (s[at_ + 1]'i1').toNat_lt; omega⟩
      have hw : wrap64 (wrap64 (wrap64 ((s[at_]'i0').toNat : Int) * 256) + wrap64 ((s[at_ + 1]'i1').toNat : Int)) = (n : Int) := by
        have b1 := (s[at_]'i0').toNat_lt
        have b2 := (s[at_ + 1]'i1').toNat_lt
        exact wrap_num _ _ _ (by omega) (by omega) hn
      have HW := Lib.hid hw
      have HNN := Lib.hid hn
      clear hw hn
      go_upto_region 4 with fail
      go_cut [6] (fun s6 wx => s6 = .int .i64 n ∧ Below wr.heap.size wr wx)
      case first => as_aux_lemma =>
        go_quiet (fail)
        rw [HW.out]
        go_wp2 
        go_meet
        exact ⟨rfl, below_drN4 wr nq⟩
      case rest => as_aux_lemma =>
       obtain ⟨rfl, hBc⟩ := hcut
       generalize wc = wd at *
       have HBq := Lib.hid (m_below_on HB.out hBc)
       have HOq := Lib.hid (HO.out.on hBc)
       clear q1 q2 q3 j0 j1 HB HO hBc HW
       by_cases hb : Begins r
       · obtain ⟨x, a, hx, hr⟩ := hb
         have hsr : s = frs l ++ (fr x ++ a) := by rw [← hr]; exact HE.out
         have hx512 := hx.2
         have hx1 := hx.1
         have hnx : n = x.size := by
           rw [← HNN.out]
           exact nat_at HAT.out.symm hsr (by omega) i1'
         subst hnx
         have ht := text_at HAT.out.symm hsr
         have hrs : r.size = x.size + 6 + a.size := by rw [hr, ByteArray.size_append, fr_size]
         have hs6 : at_ + x.size + 6 ≤ s.size := by have := HSZ2.out; omega
         have d1 : decide ((x.size : Int) < 1) = false := by simp; omega
         have d2 : decide (512 < (x.size : Int)) = false := by simp; omega
         have d2' : decide (512 < x.size) = false := by simp; omega
         have d3 : decide ((s.size : Int) - (at_ : Int) < (x.size : Int) + 6) = false := by simp; omega
         have HT1 := Lib.hid ht.1
         have HT2 := Lib.hid ht.2
         have HX := Lib.hid hx
         have HRR := Lib.hid hr
         have HSR := Lib.hid hsr
         have HRS := Lib.hid hrs
         have HHB : Hid (Begins r) := Lib.hid ⟨x, a, hx, hr⟩
         clear ht hx hr hsr hrs
         go_upto_region 7 with fail
         rw [HT1.out]
         have h2000 : x.size ≤ 2000 := by omega
         have p1 : IntKind.i64.wrap ((at_ : Int) + (x.size : Int)) = (at_ : Int) + (x.size : Int) := IntWalk.i64_in _ (by omega)
         have p2 : IntKind.i64.wrap ((at_ : Int) + (x.size : Int) + 6) = (at_ : Int) + (x.size : Int) + 6 := IntWalk.i64_in _ (by omega)
         have p3 : (0 : Int) ≤ (at_ : Int) + (x.size : Int) + 6 := by omega
         have p4 : ((at_ : Int) + (x.size : Int) + 6).toNat = at_ + x.size + 6 := by omega
         have p5 : (at_ : Int) ≤ (at_ : Int) + (x.size : Int) + 6 := by omega
         have p6 : (at_ : Int) + (x.size : Int) + 6 ≤ (s.size : Int) := by omega
         go_cut [56] (fun s56 wx => s56 = .bool false ∧ Below wd.heap.size wd wx)
         case first => as_aux_lemma =>
           refine wp_region_onto (by kernel_rfl) (by kernel_rfl) ?_
           repeat (go_big_quiet_step (first | (go_at_call 23; exact onto_calls (refFramed_any x _ h2000))))
           refine wpQuiet_nil ?_
           intro _ hw'
           obtain ⟨z, hw''⟩ := hw'
           subst hw''
           rw [HT2.out]
           go_wp2
           go_meet
           exact ⟨by simp, onto_below _ _⟩
         case rest => as_aux_lemma =>
           obtain ⟨rfl, hB7⟩ := hcut
           have HB7 := Lib.hid (m_below_on HBq.out hB7)
           obtain ⟨m, hm⟩ : ∃ m, l.length = m := ⟨_, rfl⟩
           have HN := Lib.hid hm
           have HO7 : Hid (wc.ownsRow w.heap.size 9 1 u4 m (strR.row l)) := Lib.hid (by have := HOq.out.on hB7; unfold RK.Own at this; rw [HN.out] at this; exact this)
           rw [hm] at hl7
           clear hB7 hm p1 p2 p3 p4 p5 p6
           go_wp2_with (at_builtin; refine wpList_append_own1 _ rfl (.tmp 57) (.tmp 59) 44 rfl w.heap.size 9 i0 (.string ByteArray.empty) 1 16 Try.underlying44 HI.out.1 HI.out.2.1 HI.out.2.2.1 HI.out.2.2.2 rfl (by decide) u4 m _ rfl (HO7.out.alloc _) ⟨_, 0, none⟩ 1 1 [.string x] rfl rfl (cell_one _ _ _ _ rfl) (one_str x) (by unfold maxLen; omega) (by omega) (by have := HB7.out.size; simp; omega) (by decide) ?_; intro g3 c3 w3 hg3 hown3 hgr3; have HO3 := Lib.hid hown3; have HB3 : Hid (Below w.heap.size w w3) := Lib.hid ((HB7.out.alloc HB7.out.size _).grown hgr3 (by have := HB7.out.size; simp; omega) (fun j hj => (World.ownsRow.lt HO7.out j hj).1)); clear hown3 hgr3)
           go_roundg a.size
           case measure => have := HRS.out; have h2 := HG.out; omega
           case rel => exact ⟨l ++ [x], at_ + (x.size + 6), a, by go_num, by rw [frs_snoc, ByteArray.size_append, fr_size, ← HAT.out], rfl, recs_snoc HE.out HRR.out, by
             intro y hy
             rcases List.mem_append.1 hy with h1 | h1
             · exact HOK.out y h1
             · rw [List.mem_singleton.1 h1]; exact HX.out, by rw [List.length_append, HN.out]; simp; omega, by unfold RK.Own; rw [List.length_append, RK.row_snoc, HN.out]; exact HO3.out, HB3.out⟩
       · have HNB := Lib.hid hb
         clear hb
         have fin : RecP w s (.returned (.tuple #[u4, .int .i64 at_])) wd := ⟨_, l, r, by rw [HAT.out], HOq.out, ⟨HE.out, HOK.out, HNB.out⟩, HBq.out⟩
         have FIN := Lib.hid fin
         clear fin
         by_cases c1 : n < 1
         · have d1 : decide ((n : Int) < 1) = true := by simp; omega
           go_wp2
           exact bodyPost_ret (v := .tuple #[u4, .int .i64 at_]) (by simp [results, Try.results24, go_sem]) rfl FIN.out
         · have d1 : decide ((n : Int) < 1) = false := by simp; omega
           by_cases c2 : 512 < n
           · have d2 : decide (512 < (n : Int)) = true := by simp; omega
             have d2' : decide (512 < n) = true := by simp; omega
             go_wp2
             exact bodyPost_ret (v := .tuple #[u4, .int .i64 at_]) (by simp [results, Try.results24, go_sem]) rfl FIN.out
           · have d2 : decide (512 < (n : Int)) = false := by simp; omega
             have d2' : decide (512 < n) = false := by simp; omega
             by_cases c3 : s.size < at_ + n + 6
             · have d3 : decide ((s.size : Int) - (at_ : Int) < (n : Int) + 6) = true := by simp; omega
               go_wp2
               exact bodyPost_ret (v := .tuple #[u4, .int .i64 at_]) (by simp [results, Try.results24, go_sem]) rfl FIN.out
             · have d3 : decide ((s.size : Int) - (at_ : Int) < (n : Int) + 6) = false := by simp; omega
               have hne2 : ((fr (s.extract (at_ + 2) (at_ + 2 + n))).toList != (s.extract at_ (at_ + n + 6)).toList) = true := by
                 rw [bne, beq_bytes, Bool.not_eq_true', decide_eq_false_iff_not]
                 exact fun e => HNB.out (begins_of HAT.out.symm HE.out (by omega) (by omega) (by omega) e)
               have HNE := Lib.hid hne2
               have htz : (s.extract (at_ + 2) (at_ + 2 + n)).size ≤ 2000 := by simp [ByteArray.size_extract]; omega
               clear hne2
               go_upto_region 7 with fail
               have p1 : IntKind.i64.wrap ((at_ : Int) + (n : Int)) = (at_ : Int) + (n : Int) := IntWalk.i64_in _ (by omega)
               have p2 : IntKind.i64.wrap ((at_ : Int) + (n : Int) + 6) = (at_ : Int) + (n : Int) + 6 := IntWalk.i64_in _ (by omega)
               have p3 : (0 : Int) ≤ (at_ : Int) + (n : Int) + 6 := by omega
               have p4 : ((at_ : Int) + (n : Int) + 6).toNat = at_ + n + 6 := by omega
               have p5 : (at_ : Int) ≤ (at_ : Int) + (n : Int) + 6 := by omega
               have p6 : (at_ : Int) + (n : Int) + 6 ≤ (s.size : Int) := by omega
               generalize s.extract (at_ + 2) (at_ + 2 + n) = t at *
               go_cut [56] (fun s56 wx => s56 = .bool true ∧ Below wd.heap.size wd wx)
               case first => as_aux_lemma =>
                 refine wp_region_onto (by kernel_rfl) (by kernel_rfl) ?_
                 repeat (go_big_quiet_step (first | (go_at_call 23; exact onto_calls (refFramed_any t _ htz))))
                 refine wpQuiet_nil ?_
                 intro _ hw'
                 obtain ⟨z, hw''⟩ := hw'
                 subst hw''
                 go_wp2
                 go_meet
                 exact ⟨congrArg Value.bool HNE.out, onto_below _ _⟩
               case rest => as_aux_lemma =>
                 obtain ⟨rfl, hB7⟩ := hcut
                 clear p1 p2 p3 p4 p5 p6
                 have FIN2 : Hid (RecP w s (.returned (.tuple #[u4, .int .i64 at_])) wc) := Lib.hid ⟨_, l, r, by rw [HAT.out], HOq.out.on hB7, ⟨HE.out, HOK.out, HNB.out⟩, m_below_on HBq.out hB7⟩
                 clear hB7
                 go_wp2
                 exact bodyPost_ret (v := .tuple #[u4, .int .i64 at_]) (by simp [results, Try.results24, go_sem]) rfl FIN2.out
end Go.Proofs.Ytobmfbafjpbkoaa
