/-
  The document's encoding: numbers of one and four bytes, flags, commands. The document's fields of a kind.
-/
import Derived.Test.YtodajejjhfpdmaaDoorFrmR
import Derived.Test.YtodajejjhfpdmaaDoorOctI
namespace Go.Proofs.YtodajejjhfpdmaaDoor
open Go.RowKit Go.Instr

def retS (s : ByteArray) (w : World) (e : Ending) (w' : World) : Prop := e = .returned (.string s) ∧ Below w.heap.size w w'
theorem rone_any (n : Nat) (w : World) (hn : n < 256) : Calls Tryd.prog 23 #[.int .u8 n] w (retS (oneB n 1) w) := by
  have hw : IntKind.u64.wrap (n : Int) = (n : Int) := IntWalk.u64_in _ (by omega)
  have H1 := Lib.hid (fun w => refNum_any n 1 w (by decide) (by omega))
  go_enter Tryd.func23, Tryd.ntmps23
  go_wp2_with fail
  refine (H1.out _).mono ?_
  rintro e w2 ⟨rfl, hB⟩
  go_wp2_with fail
  go_ret
  exact ⟨rfl, hB⟩
theorem rfour_any (n : Nat) (w : World) (hn : n < 4294967296) : Calls Tryd.prog 24 #[.int .u32 n] w (retS (oneB n 4) w) := by
  have hw : IntKind.u64.wrap (n : Int) = (n : Int) := IntWalk.u64_in _ (by omega)
  have H1 := Lib.hid (fun w => refNum_any n 4 w (by decide) (by omega))
  go_enter Tryd.func24, Tryd.ntmps24
  go_wp2_with fail
  refine (H1.out _).mono ?_
  rintro e w2 ⟨rfl, hB⟩
  go_wp2_with fail
  go_ret
  exact ⟨rfl, hB⟩
theorem rflag_any (b : Bool) (w : World) : Calls Tryd.prog 25 #[.bool b] w (retS (oneB (if b then 1 else 0) 1) w) := by
  cases b
  · go_enter Tryd.func25, Tryd.ntmps25
    go_wp2
    go_ret
    exact ⟨rfl, Below.refl _ _⟩
  · go_enter Tryd.func25, Tryd.ntmps25
    go_wp2
    go_ret
    exact ⟨rfl, Below.refl _ _⟩
theorem rone_is (n : Nat) (w : World) (hn : n < 256) : Calls Tryd.prog 23 #[.int .u8 n] w fun e w' => e = .returned (.string (oneB n 1)) ∧ Below w.heap.size w w' := rone_any n w hn
theorem rfour_is (n : Nat) (w : World) (hn : n < 4294967296) : Calls Tryd.prog 24 #[.int .u32 n] w fun e w' => e = .returned (.string (oneB n 4)) ∧ Below w.heap.size w w' := rfour_any n w hn
def cmdS (c : CmdV) : ByteArray := oneB c.k 1 ++ oneB c.n 1 ++ oneB c.l 1 ++ oneB c.e 4 ++ oneB c.r 4
set_option maxHeartbeats 1000000 in
set_option maxRecDepth 20000 in
theorem rcommand_any (c : CmdV) (w : World) (hc : c.fine) : Calls Tryd.prog 26 #[.agg #[.int .u8 c.k, .int .u8 c.n, .int .u8 c.l, .int .u32 c.e, .int .u32 c.r]] w (retS (cmdS c) w) := by
  obtain ⟨k, n, l, e, r⟩ := c
  obtain ⟨h1, h2, h3, h4, h5⟩ := hc
  simp only at h1 h2 h3 h4 h5
  have s1 : (oneB k 1).size = 1 := oneB_size _ _
  have s2 : (oneB n 1).size = 1 := oneB_size _ _
  have s3 : (oneB l 1).size = 1 := oneB_size _ _
  have s4 : (oneB e 4).size = 4 := oneB_size _ _
  have s5 : (oneB r 4).size = 4 := oneB_size _ _
  have B0 := Lib.hid (show Below w.heap.size w (w.alloc (.cells #[.int .u8 k, .int .u8 n, .int .u8 l, .int .u32 e, .int .u32 r] 48)) by go_grown)
  have K1 := Lib.hid h1
  have K2 := Lib.hid h2
  have K3 := Lib.hid h3
  have K4 := Lib.hid h4
  have K5 := Lib.hid h5
  have hX : Blk (w.alloc (.cells #[.int .u8 k, .int .u8 n, .int .u8 l, .int .u32 e, .int .u32 r] 48)) w.heap.size #[.int .u8 k, .int .u8 n, .int .u8 l, .int .u32 e, .int .u32 r] 48 := Blk.new rfl
  clear h1 h2 h3 h4 h5
  go_enter Tryd.func26, Tryd.ntmps26
  go_upto_region 1 with fail
  obtain ⟨w1, hw1⟩ : ∃ w1, w1 = w.alloc (.cells #[.int .u8 k, .int .u8 n, .int .u8 l, .int .u32 e, .int .u32 r] 48) := ⟨_, rfl⟩
  rw [← hw1] at B0 hX ⊢
  have q0 := onto_cell (show w1.cell? ⟨w.heap.size, 0, none⟩ = some (.int .u8 k) from hX.cell 0)
  have q1 := onto_cell (show w1.cell? ⟨w.heap.size, 1, none⟩ = some (.int .u8 n) from hX.cell 1)
  have q2 := onto_cell (show w1.cell? ⟨w.heap.size, 2, none⟩ = some (.int .u8 l) from hX.cell 2)
  have q3 := onto_cell (show w1.cell? ⟨w.heap.size, 3, none⟩ = some (.int .u32 e) from hX.cell 3)
  have q4 := onto_cell (show w1.cell? ⟨w.heap.size, 4, none⟩ = some (.int .u32 r) from hX.cell 4)
  clear hw1 hX
  refine wp_region_onto (by kernel_rfl) (by kernel_rfl) ?_
  repeat (go_big_quiet_step ((first | (go_at_call 23; first | exact onto_calls (rone_is k _ K1.out) | exact onto_calls (rone_is n _ K2.out) | exact onto_calls (rone_is l _ K3.out)) | (go_at_call 24; first | exact onto_calls (rfour_is e _ K4.out) | exact onto_calls (rfour_is r _ K5.out)))))
  refine wpQuiet_nil ?_
  intro _ hw'
  obtain ⟨z, hw''⟩ := hw'
  subst hw''
  have HZ := Lib.hid (onto_below w1 z)
  go_wp2
  go_ret
  exact ⟨rfl, m_below_on B0.out HZ.out⟩
end Go.Proofs.YtodajejjhfpdmaaDoor


namespace Go.Proofs.YtodajejjhfpdmaaDoor
open Go.RowKit Go.Instr

/-- The document's letters of a kind. -/
def rfK (k : Nat) : List Nat :=
  match k with
  | 1 => [101, 107, 115, 118, 114, 100]
  | 2 => [101, 107, 115, 102]
  | 3 => [101, 107, 115]
  | 4 => [101, 107]
  | 5 => [101, 107, 115, 118, 114, 102]
  | 6 => [101, 108, 113, 102]
  | 7 => [119]
  | 8 => [101, 108, 113]
  | 9 => [98, 110]
  | 10 => [98, 110, 116]
  | 11 => [98]
  | 12 => [98, 110, 99]
  | 13 => [98, 110]
  | 14 => [110, 99]
  | 15 => [110, 102]
  | 16 => [110, 119]
  | _ => []
def rfS (k : Nat) : ByteArray := ⟨((rfK k).map UInt8.ofNat).toArray⟩
set_option maxHeartbeats 4000000 in
set_option maxRecDepth 20000 in
theorem rfields_any (k : Nat) (w : World) (hk : k < 256) : Calls Tryd.prog 22 #[.int .u8 k] w (retS (rfS k) w) := by
  by_cases h : k < 17
  · have hc : k = 0 ∨ k = 1 ∨ k = 2 ∨ k = 3 ∨ k = 4 ∨ k = 5 ∨ k = 6 ∨ k = 7 ∨ k = 8 ∨ k = 9 ∨ k = 10 ∨ k = 11 ∨ k = 12 ∨ k = 13 ∨ k = 14 ∨ k = 15 ∨ k = 16 := by omega
    rcases hc with rfl | rfl | rfl | rfl | rfl | rfl | rfl | rfl | rfl | rfl | rfl | rfl | rfl | rfl | rfl | rfl | rfl
    all_goals
      go_enter Tryd.func22, Tryd.ntmps22
      go_wp2
      go_ret
      exact ⟨rfl, by go_grown⟩
  · have hw : IntKind.i64.wrap (k : Int) = (k : Int) := IntWalk.i64_in _ (by omega)
    have h' : 17 ≤ (k : Int) := by omega
    have h2 : ¬ (k : Int) < 17 := by omega
    have e : rfS k = ⟨#[]⟩ := by
      unfold rfS rfK
      split <;> first | omega | rfl
    rw [e]
    go_enter Tryd.func22, Tryd.ntmps22
    go_wp2
    go_ret
    exact ⟨rfl, by go_grown⟩
end Go.Proofs.YtodajejjhfpdmaaDoor

