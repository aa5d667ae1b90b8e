/-
  The walk of register's add: the sum, or why there is none.
-/
import Derived.Test.YtegjgdiollafkaaDoorRegB
namespace Go.Proofs.YtegjgdiollafkaaDoor
open Go.RowKit Go.Instr

abbrev Res := V × Int × V × Bool
abbrev Res.ret (r : Res) : Ending := .returned (.tuple #[.agg (vC r.1), .agg (aC r.2.1 r.2.2.1), .bool r.2.2.2])
def addV (v : V) (n : Int) : Res :=
  match numV v with
  | .none => (v, 4, v, false)
  | .some m => if over m n = true then (v, 9, v, false) else (⟨true, ⟨(Lib.itoa (m + n)).toArray⟩⟩, 0, ⟨true, ⟨(Lib.itoa (m + n)).toArray⟩⟩, true)
theorem numV_in {v : V} {m : Int} (h : numV v = some m) : in64 m := by
  unfold numV at h
  split at h
  · exact (numO_some h).2
  · simp only [Option.some.injEq] at h
    subst h
    exact ⟨by decide, by decide⟩
/-- The three blocks of a call: the boxed value, and the two results, still zero. -/
def Add3 (w : World) (B : Nat) (v : V) : Prop := Blk w B (vC v) 26 ∧ Blk w (B + 1) #[.bool false, .string ⟨#[]⟩] 26 ∧ Blk w (B + 2) #[.int .i64 0, .bool false, .string ⟨#[]⟩] 40
theorem Add3.on {w w' : World} {B : Nat} {v : V} (h : Add3 w B v) (hB : Below w.heap.size w w') : Add3 w' B v := ⟨h.1.on hB, h.2.1.on hB, h.2.2.on hB⟩
theorem Add3.al {w : World} {B : Nat} {v : V} (h : Add3 w B v) (o : Obj) : Add3 (w.alloc o) B v := ⟨h.1.alloc _, h.2.1.alloc _, h.2.2.alloc _⟩
theorem Add3.start (w : World) (v : V) : Add3 (((w.alloc (.cells (vC v) 26)).alloc (.cells #[.bool false, .string ⟨#[]⟩] 26)).alloc (.cells #[.int .i64 0, .bool false, .string ⟨#[]⟩] 40)) w.heap.size v :=
  ⟨Blk.alloc (Blk.alloc (Blk.new rfl) _) _, Blk.alloc (Blk.new (by simp)) _, Blk.new (by simp)⟩
/-- A result of two cells and one of three are stored. -/
theorem set5 {w0 w : World} {B1 B2 : Nat} {p q r s t a b c d e : Value} {T1 T2 : TypeId} (h1 : Blk w B1 #[p, q] T1) (h2 : Blk w B2 #[r, s, t] T2) (hne : B1 ≠ B2) (hB : Below w0.heap.size w0 w) (hl1 : w0.heap.size ≤ B1) (hl2 : w0.heap.size ≤ B2) :
    let W := ((((w.setCell ⟨B1, 0, none⟩ a).setCell ⟨B1, 1, none⟩ b).setCell ⟨B2, 0, none⟩ c).setCell ⟨B2, 1, none⟩ d).setCell ⟨B2, 2, none⟩ e
    W.cell? ⟨B1, 0, none⟩ = some a ∧ W.cell? ⟨B1, 1, none⟩ = some b ∧ W.cell? ⟨B2, 0, none⟩ = some c ∧ W.cell? ⟨B2, 1, none⟩ = some d ∧ W.cell? ⟨B2, 2, none⟩ = some e ∧ Below w0.heap.size w0 W := by
  have k1 : Blk (((((w.setCell ⟨B1, 0, none⟩ a).setCell ⟨B1, 1, none⟩ b).setCell ⟨B2, 0, none⟩ c).setCell ⟨B2, 1, none⟩ d).setCell ⟨B2, 2, none⟩ e) B1 #[a, b] T1 :=
    Blk.set_other (Blk.set_other (Blk.set_other (Blk.set (Blk.set h1 0 a _ rfl) 1 b _ rfl) 0 _ hne) 1 _ hne) 2 _ hne
  have k2 : Blk (((((w.setCell ⟨B1, 0, none⟩ a).setCell ⟨B1, 1, none⟩ b).setCell ⟨B2, 0, none⟩ c).setCell ⟨B2, 1, none⟩ d).setCell ⟨B2, 2, none⟩ e) B2 #[c, d, e] T2 :=
    Blk.set (Blk.set (Blk.set (Blk.set_other (Blk.set_other h2 0 _ (Ne.symm hne)) 1 _ (Ne.symm hne)) 0 c _ rfl) 1 d _ rfl) 2 e _ rfl
  refine ⟨k1.cell 0, k1.cell 1, k2.cell 0, k2.cell 1, k2.cell 2, ?_⟩
  exact Below.setCell (Below.setCell (Below.setCell (Below.setCell (Below.setCell hB hl1 _) hl1 _) hl2 _) hl2 _) hl2 _
set_option maxHeartbeats 2000000 in
theorem add_any (v : V) (n : Int) (w : World) (hs : v.s.size ≤ 1000000) (he : Env w) (hn : in64 n) : Calls Tryd.prog 15 #[.agg (vC v), .int .i64 n] w fun en w' => en = (addV v n).ret ∧ Below w.heap.size w w' := by
  have HA := Lib.hid (Add3.start w v)
  have HE := Lib.hid he
  have HS := Lib.hid hs
  have HN := Lib.hid hn
  clear hs he hn
  unfold addV
  cases hv : numV v with
  | none =>
    simp only
    have HV := Lib.hid hv
    clear hv
    go_enter Tryd.func15, Tryd.ntmps15
    go_wp2_with (first | (go_at_call 18; refine (number_any v _ HS.out (HE.out.on (by go_grown))).mono ?_; rw [HV.out]; rintro e w1 ⟨rfl, hB⟩; have HB1 : Hid (Below w.heap.size w w1) := g_below_on (by go_grown) hB; have HA1 := Lib.hid (HA.out.on hB); clear hB; have x0 := HA1.out.1.cell 0; have x1 := HA1.out.1.cell 1; simp at x0 x1) | (go_at_call 12; (refine (keep_any v v 4 _).mono ?_; rintro e w2 ⟨rfl, hB⟩; have HB2 : Hid (Below w.heap.size w w2) := g_below_on HB1.out hB; have HA2 := Lib.hid (HA1.out.on hB); clear hB; have y0 := HA2.out.2.1.cell 0; have y1 := HA2.out.2.1.cell 1; have z0 := HA2.out.2.2.cell 0; have z1 := HA2.out.2.2.cell 1; have z2 := HA2.out.2.2.cell 2; simp at y0 y1 z0 z1 z2; have f0 := HA2.out.2.1.frozen 0; have f1 := HA2.out.2.1.frozen 1; have g0 := HA2.out.2.2.frozen 0; have g1 := HA2.out.2.2.frozen 1; have g2 := HA2.out.2.2.frozen 2)))
    obtain ⟨c0, c1, c2, c3, c4, hb⟩ := set5 (a := .bool v.has) (b := .string v.s) (c := .int .i64 4) (d := .bool v.has) (e := .string v.s) HA2.out.2.1 HA2.out.2.2 (by omega) HB2.out (by omega) (by omega)
    exact bodyPost_ret (v := .tuple #[.agg (vC v), .agg (aC 4 v), .bool false]) (by simp [results, Tryd.results15, go_sem, c0, c1, c2, c3, c4]) rfl ⟨rfl, hb⟩
  | some m =>
    simp only
    have HM := Lib.hid (numV_in hv)
    have HV := Lib.hid hv
    clear hv
    cases ho : over m n with
    | true =>
      rw [if_pos rfl]
      have HO := Lib.hid ho
      clear ho
      go_enter Tryd.func15, Tryd.ntmps15
      go_wp2_with (first | (go_at_call 18; refine (number_any v _ HS.out (HE.out.on (by go_grown))).mono ?_; rw [HV.out]; rintro e w1 ⟨rfl, hB⟩; have HB1 : Hid (Below w.heap.size w w1) := g_below_on (by go_grown) hB; have HA1 := Lib.hid (HA.out.on hB); clear hB; have x0 := HA1.out.1.cell 0; have x1 := HA1.out.1.cell 1; simp at x0 x1) | (go_at_call 19; refine (over_any m n _ HM.out HN.out).mono ?_; rw [HO.out]; rintro e w3 ⟨rfl, rfl⟩) | (go_at_call 12; (refine (keep_any v v 9 _).mono ?_; rintro e w2 ⟨rfl, hB⟩; have HB2 : Hid (Below w.heap.size w w2) := g_below_on HB1.out hB; have HA2 := Lib.hid (HA1.out.on hB); clear hB; have y0 := HA2.out.2.1.cell 0; have y1 := HA2.out.2.1.cell 1; have z0 := HA2.out.2.2.cell 0; have z1 := HA2.out.2.2.cell 1; have z2 := HA2.out.2.2.cell 2; simp at y0 y1 z0 z1 z2; have f0 := HA2.out.2.1.frozen 0; have f1 := HA2.out.2.1.frozen 1; have g0 := HA2.out.2.2.frozen 0; have g1 := HA2.out.2.2.frozen 1; have g2 := HA2.out.2.2.frozen 2)))
      obtain ⟨c0, c1, c2, c3, c4, hb⟩ := set5 (a := .bool v.has) (b := .string v.s) (c := .int .i64 9) (d := .bool v.has) (e := .string v.s) HA2.out.2.1 HA2.out.2.2 (by omega) HB2.out (by omega) (by omega)
      exact bodyPost_ret (v := .tuple #[.agg (vC v), .agg (aC 9 v), .bool false]) (by simp [results, Tryd.results15, go_sem, c0, c1, c2, c3, c4]) rfl ⟨rfl, hb⟩
    | false =>
      rw [if_neg (by decide)]
      have HO := Lib.hid ho
      have hin : in64 (m + n) := by
        unfold over at ho
        rw [decide_eq_false_iff_not] at ho
        unfold in64; omega
      have hw : IntKind.i64.wrap (m + n) = m + n := IntWalk.i64_in _ hin
      have HI := Lib.hid hin
      obtain ⟨s, hs⟩ : ∃ s : ByteArray, (⟨(Lib.itoa (m + n)).toArray⟩ : ByteArray) = s := ⟨_, rfl⟩
      have HSS := Lib.hid hs
      rw [hs]
      clear ho hin hs
      go_enter Tryd.func15, Tryd.ntmps15
      go_wp2_with (first | (go_at_call 18; refine (number_any v _ HS.out (HE.out.on (by go_grown))).mono ?_; rw [HV.out]; rintro e w1 ⟨rfl, hB⟩; have HB1 : Hid (Below w.heap.size w w1) := g_below_on (by go_grown) hB; have HA1 := Lib.hid (HA.out.on hB); clear hB; have x0 := HA1.out.1.cell 0; have x1 := HA1.out.1.cell 1; simp at x0 x1) | (go_at_call 19; refine (over_any m n _ HM.out HN.out).mono ?_; rw [HO.out]; rintro e w3 ⟨rfl, rfl⟩) | (go_at_call 20; (refine (Tryd.strconv_FormatInt_10 (m + n) HI.out.1 HI.out.2 _ (HE.out.on HB1.out).1).mono ?_; rintro e w3 ⟨rfl, k, os, rfl⟩; rw [HSS.out]; have hB := below_new w1 k os; have HB3 : Hid (Below w.heap.size w _) := g_below_on HB1.out hB; have HA3 := Lib.hid (HA1.out.on hB); clear hB; generalize Go.Sort.grow (w1.drewN k) os = w4 at *)) | (go_at_call 14; (refine (text_any s _).mono ?_; rintro e w5 ⟨rfl, hB⟩; have HB5 : Hid (Below w.heap.size w w5) := g_below_on HB3.out hB; have HA5 := Lib.hid (HA3.out.on hB); clear hB)) | (go_at_call 13; (refine (write_any ⟨true, s⟩ ⟨true, s⟩ _).mono ?_; rintro e w6 ⟨rfl, hB⟩; have HB6 : Hid (Below w.heap.size w w6) := g_below_on (HB5.out.alloc HB5.out.size _) hB; have HA6 := Lib.hid (Add3.on (HA5.out.al _) hB); clear hB; have y0 := HA6.out.2.1.cell 0; have y1 := HA6.out.2.1.cell 1; have z0 := HA6.out.2.2.cell 0; have z1 := HA6.out.2.2.cell 1; have z2 := HA6.out.2.2.cell 2; simp at y0 y1 z0 z1 z2; have f0 := HA6.out.2.1.frozen 0; have f1 := HA6.out.2.1.frozen 1; have g0 := HA6.out.2.2.frozen 0; have g1 := HA6.out.2.2.frozen 1; have g2 := HA6.out.2.2.frozen 2)))
      obtain ⟨c0, c1, c2, c3, c4, hb⟩ := set5 (a := .bool true) (b := .string s) (c := .int .i64 0) (d := .bool true) (e := .string s) HA6.out.2.1 HA6.out.2.2 (by omega) HB6.out (by omega) (by omega)
      exact bodyPost_ret (v := .tuple #[.agg (vC ⟨true, s⟩), .agg (aC 0 ⟨true, s⟩), .bool true]) (by simp [results, Tryd.results15, go_sem, c0, c1, c2, c3, c4]) rfl ⟨rfl, hb⟩
end Go.Proofs.YtegjgdiollafkaaDoor
