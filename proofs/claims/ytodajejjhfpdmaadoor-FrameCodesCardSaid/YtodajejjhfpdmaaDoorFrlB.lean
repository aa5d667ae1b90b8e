/-
  frame's law speaks: a need is encoded and decoded.
-/
import Derived.Test.YtodajejjhfpdmaaDoorFrmR
namespace Go.Proofs.YtodajejjhfpdmaaDoor
open Go.RowKit Go.Instr

def needF : Fr := { fr0 with kind := 4, frm := 1, dest := 2, epoch := 3, key := 4 }
theorem need_valid : validF needF = true := by decide
theorem need_fine : needF.fine := ⟨by decide, by decide, by decide, by decide, by decide, ⟨by decide, by decide, by decide⟩, by decide, by decide, by decide, ⟨by decide, by decide⟩, by decide, ⟨by decide, by decide, by decide, by decide, by decide⟩, by decide, ⟨by decide, by decide, by decide, by decide, by decide, by decide, by decide, by decide⟩, (by intro x hx; cases hx), (by intro x hx; cases hx)⟩
theorem need_body : bodyF needF = ⟨#[4, 1, 2, 0, 0, 0, 3, 4]⟩ := by
  unfold bodyF joinS
  rw [if_pos (partsF_chk needF need_fine need_valid)]
  rfl
theorem need_enc : encS needF = ⟨#[4, 1, 2, 0, 0, 0, 3, 4]⟩ ++ sealB ⟨#[4, 1, 2, 0, 0, 0, 3, 4]⟩ := by
  unfold encS
  rw [if_pos need_valid, need_body]
theorem need_size : (encS needF).size = 12 := by
  rw [need_enc, ByteArray.size_append, sealB_size]
  rfl
theorem need_head : (encS needF).extract 0 8 = ⟨#[4, 1, 2, 0, 0, 0, 3, 4]⟩ := by
  have h : (encS needF).data.toList = [4, 1, 2, 0, 0, 0, 3, 4] ++ (sealB ⟨#[4, 1, 2, 0, 0, 0, 3, 4]⟩).data.toList := by
    rw [need_enc]
    simp
  exact Go.WideShapes.bytes_inj (ext_pre _ _ _ 8 h rfl).1
theorem need_dec : decF (encS needF) = (needF, 0) := by
  rw [decF_enc needF need_fine need_valid]
  rfl
set_option maxHeartbeats 1000000 in
set_option maxRecDepth 20000 in
theorem speaks_any (w : World) (henv : FEnv w) : Calls Tryd.prog 7 #[] w (retB true w) := by
  have H1 := Lib.hid (Encode_any needF none none 0 0 w need_fine (by decide) henv (.inl ⟨rfl, rfl⟩) (.inl ⟨rfl, rfl⟩))
  have HENV := Lib.hid henv
  clear henv
  go_enter Tryd.func7, Tryd.ntmps7
  go_wp2_with fail
  refine H1.out.mono ?_
  rintro e w2 ⟨rfl, hB2⟩
  have he : encE needF = 0 := by unfold encE; rw [if_pos need_valid]
  rw [he]
  obtain ⟨s, hs⟩ : ∃ s, s = encS needF := ⟨_, rfl⟩
  rw [← hs]
  have hsz : s.size = 12 := by rw [hs]; exact need_size
  have hhd : s.extract 0 8 = ⟨#[4, 1, 2, 0, 0, 0, 3, 4]⟩ := by rw [hs]; exact need_head
  have hdec : decF s = (needF, 0) := by rw [hs]; exact need_dec
  have H2 := Lib.hid (Decode_any s w2 (by omega) (HENV.out.on hB2 HENV.out.pos))
  rw [hdec] at H2
  have HB2 := Lib.hid hB2
  have HHD := Lib.hid hhd
  clear H1 he hs hdec hB2 hhd
  go_wp2_with fail
  refine H2.out.mono ?_
  rintro e w3 ⟨sl, tl, rfl, hB3, hm, he⟩
  obtain ⟨a, c1, rfl⟩ := hm.len
  obtain ⟨b, c2, rfl⟩ := he.len
  have RZ := Lib.hid (blk_raw (Blk.new (w := w3) (B := w3.heap.size) (T := 47) (cs := z34) rfl))
  have ON := Lib.hid (frC_one needF a b 0 0 c1 c2)
  have HB3 := Lib.hid (m_below_on HB2.out hB3)
  have HF := Lib.hid (setRow_blk (frC needF (.slice a 0 c1) (.slice b 0 c2)) (Blk.new (w := w3) (B := w3.heap.size) (T := 47) (cs := z34) rfl))
  clear H2 hB3 hm he
  go_upto_region 3 with (first | (refine wpList_store_row rfl 47 (.tmp 3) (.tmp 14) rfl w3.heap.size (frC needF (.slice a 0 c1) (.slice b 0 c2)) rfl rfl 47 z34 RZ.out (by kernel_rfl) rfl ON.out ?_))
  obtain ⟨w4, hw4⟩ : ∃ w4, w4 = (w3.alloc (.cells z34 47)).setRow w3.heap.size (frC needF (.slice a 0 c1) (.slice b 0 c2)) := ⟨_, rfl⟩
  have HB4 := Lib.hid (show Below w.heap.size w w4 from by rw [hw4]; exact below_sr (HB3.out.alloc HB3.out.size _) HB3.out.size _)
  rw [← hw4] at HF ⊢
  have c0 : w4.cell? ⟨w3.heap.size, 1, none⟩ = some (.int .u8 1) := HF.out.cell 1
  have c1' : w4.cell? ⟨w3.heap.size, 3, none⟩ = some (.int .u32 3) := HF.out.cell 3
  have c2' : w4.cell? ⟨w3.heap.size, 4, none⟩ = some (.int .u8 4) := HF.out.cell 4
  have hsz' : (s.size : Int) = 12 := by omega
  have hhd := HHD.out
  clear hw4 RZ ON
  go_wp2_with fail
  go_ret
  exact ⟨rfl, HB4.out⟩
end Go.Proofs.YtodajejjhfpdmaaDoor
