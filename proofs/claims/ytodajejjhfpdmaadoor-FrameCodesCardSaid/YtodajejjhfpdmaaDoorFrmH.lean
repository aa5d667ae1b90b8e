/-
  Frame's encoder: a field.
-/
import Derived.Test.YtodajejjhfpdmaaDoorFrmG
import Derived.StillTailTactics
namespace Go.Proofs.YtodajejjhfpdmaaDoor
open Go.RowKit Go.Instr

/-- A frame as a value; its slices by where they lie. -/
structure Fr where
  kind : Nat
  frm : Nat
  dest : Nat
  epoch : Nat
  key : Nat
  sn : Nat
  sb : Nat
  sl : Nat
  has : Bool
  text : ByteArray
  rmw : Bool
  flag : Bool
  dir : Nat
  life : Nat
  req : Nat
  bn : Nat
  bb : Nat
  slot : Nat
  cmd : CmdV
  ve : Nat
  lv : Lv
  ms : List Mem
  es : List Ent
def Fr.fine (f : Fr) : Prop := f.kind < 256 ∧ f.frm < 256 ∧ f.dest < 256 ∧ f.epoch < 4294967296 ∧ f.key < 256 ∧ (f.sn < 4294967296 ∧ f.sb < 256 ∧ f.sl < 256) ∧ f.dir < 256 ∧ f.life < 256 ∧ f.req < 4294967296 ∧ (f.bn < 4294967296 ∧ f.bb < 256) ∧ f.slot < 4294967296 ∧ f.cmd.fine ∧ f.ve < 4294967296 ∧ f.lv.fine ∧ (∀ x ∈ f.ms, x.fine) ∧ ∀ x ∈ f.es, x.fine
abbrev frC (f : Fr) (s t : Value) : Array Value := #[.int .u8 f.kind, .int .u8 f.frm, .int .u8 f.dest, .int .u32 f.epoch, .int .u8 f.key, .int .u32 f.sn, .int .u8 f.sb, .int .u8 f.sl, .bool f.has, .string f.text, .bool f.rmw, .bool f.flag, .int .u8 f.dir, .int .u8 f.life, .int .u32 f.req, .int .u32 f.bn, .int .u8 f.bb, .int .u32 f.slot, .int .u8 f.cmd.k, .int .u8 f.cmd.n, .int .u8 f.cmd.l, .int .u32 f.cmd.e, .int .u32 f.cmd.r, .int .u32 f.ve, s, .int .u8 f.lv.a, .int .u8 f.lv.b, .int .u8 f.lv.c, .int .u8 f.lv.d, .int .u8 f.lv.e, .int .u8 f.lv.f, .int .u8 f.lv.g, .int .u8 f.lv.h, t]
set_option maxHeartbeats 2000000 in
theorem field_E (base E : Nat) (ps : List PartV) (v s t : Value) (f : Fr) (w : World) (h : EncAt base E w ps v) (hE : E < base) (hb : base ≤ w.heap.size) (hl : ps.length ≤ 100) (hf : f.fine) :
    Calls Tryd.prog 20 #[.pointer (some ⟨E, 0, none⟩), .agg (frC f s t), .int .i32 69] w (EncP base E w (ps ++ [n4 f.epoch])) := by
  have hB : Below w.heap.size w (w.alloc (.cells (frC f s t) 47)) := (Below.refl _ _).alloc (Nat.le_refl _) _
  have HE := Lib.hid (h.on hB)
  have HK := Lib.hid (And.intro (KB.of_below (B := E) (hB.mono hb)) (KeptE.of hB))
  have HF := Lib.hid hf
  have hsz : (w.alloc (.cells (frC f s t) 47)).heap.size = w.heap.size + 1 := by simp
  have h6 := four_1 base E ps v f.epoch (w.alloc (.cells (frC f s t) 47)) HE.out hE (by omega) (by omega) hf.2.2.2.1
  try rw [hsz] at h6
  have H6 := Lib.hid h6
  clear h hB hf hsz h6
  go_enter Tryd.func20, Tryd.ntmps20
  go_wp2_with fail
  refine H6.out.mono ?_
  rintro en w2 ⟨hv2, ⟨hk2, ht2⟩, rfl⟩
  go_wp2_with fail
  go_end0
  exact ⟨hv2, ⟨HK.out.1.trans hk2, HK.out.2.trans ht2⟩, rfl⟩
set_option maxHeartbeats 2000000 in
theorem field_K (base E : Nat) (ps : List PartV) (v s t : Value) (f : Fr) (w : World) (h : EncAt base E w ps v) (hE : E < base) (hb : base ≤ w.heap.size) (hl : ps.length ≤ 100) (hf : f.fine) :
    Calls Tryd.prog 20 #[.pointer (some ⟨E, 0, none⟩), .agg (frC f s t), .int .i32 75] w (EncP base E w (ps ++ [n1 f.key])) := by
  have hB : Below w.heap.size w (w.alloc (.cells (frC f s t) 47)) := (Below.refl _ _).alloc (Nat.le_refl _) _
  have HE := Lib.hid (h.on hB)
  have HK := Lib.hid (And.intro (KB.of_below (B := E) (hB.mono hb)) (KeptE.of hB))
  have HF := Lib.hid hf
  have hsz : (w.alloc (.cells (frC f s t) 47)).heap.size = w.heap.size + 1 := by simp
  have h6 := one_1 base E ps v f.key (w.alloc (.cells (frC f s t) 47)) HE.out hE (by omega) (by omega) hf.2.2.2.2.1
  try rw [hsz] at h6
  have H6 := Lib.hid h6
  clear h hB hf hsz h6
  go_enter Tryd.func20, Tryd.ntmps20
  go_wp2_with fail
  refine H6.out.mono ?_
  rintro en w2 ⟨hv2, ⟨hk2, ht2⟩, rfl⟩
  go_wp2_with fail
  go_end0
  exact ⟨hv2, ⟨HK.out.1.trans hk2, HK.out.2.trans ht2⟩, rfl⟩
set_option maxHeartbeats 2000000 in
theorem field_T (base E : Nat) (ps : List PartV) (v s t : Value) (f : Fr) (w : World) (h : EncAt base E w ps v) (hE : E < base) (hb : base ≤ w.heap.size) (hl : ps.length ≤ 100) (hf : f.fine) :
    Calls Tryd.prog 20 #[.pointer (some ⟨E, 0, none⟩), .agg (frC f s t), .int .i32 84] w (EncP base E w (ps ++ [n4 f.sn, n1 f.sb, n1 f.sl])) := by
  have hB : Below w.heap.size w (w.alloc (.cells (frC f s t) 47)) := (Below.refl _ _).alloc (Nat.le_refl _) _
  have HE := Lib.hid (h.on hB)
  have HK := Lib.hid (And.intro (KB.of_below (B := E) (hB.mono hb)) (KeptE.of hB))
  have HF := Lib.hid hf
  have hsz : (w.alloc (.cells (frC f s t) 47)).heap.size = w.heap.size + 1 := by simp
  have h6 := stamp_any base E ps v f.sn f.sb f.sl (w.alloc (.cells (frC f s t) 47)) HE.out hE (by omega) (by omega) hf.2.2.2.2.2.1.1 hf.2.2.2.2.2.1.2.1 hf.2.2.2.2.2.1.2.2
  try rw [hsz] at h6
  have H6 := Lib.hid h6
  clear h hB hf hsz h6
  go_enter Tryd.func20, Tryd.ntmps20
  go_wp2_with fail
  refine H6.out.mono ?_
  rintro en w2 ⟨hv2, ⟨hk2, ht2⟩, rfl⟩
  go_wp2_with fail
  go_end0
  exact ⟨hv2, ⟨HK.out.1.trans hk2, HK.out.2.trans ht2⟩, rfl⟩
set_option maxHeartbeats 2000000 in
theorem field_V (base E : Nat) (ps : List PartV) (v s t : Value) (f : Fr) (w : World) (h : EncAt base E w ps v) (hE : E < base) (hb : base ≤ w.heap.size) (hl : ps.length ≤ 100) (hf : f.fine) :
    Calls Tryd.prog 20 #[.pointer (some ⟨E, 0, none⟩), .agg (frC f s t), .int .i32 86] w (EncP base E w (ps ++ [nB f.has, pT f.text])) := by
  have hB : Below w.heap.size w (w.alloc (.cells (frC f s t) 47)) := (Below.refl _ _).alloc (Nat.le_refl _) _
  have HE := Lib.hid (h.on hB)
  have HK := Lib.hid (And.intro (KB.of_below (B := E) (hB.mono hb)) (KeptE.of hB))
  have HF := Lib.hid hf
  have hsz : (w.alloc (.cells (frC f s t) 47)).heap.size = w.heap.size + 1 := by simp
  have h6 := value_any base E ps v f.has f.text (w.alloc (.cells (frC f s t) 47)) HE.out hE (by omega) (by omega)
  try rw [hsz] at h6
  have H6 := Lib.hid h6
  clear h hB hf hsz h6
  go_enter Tryd.func20, Tryd.ntmps20
  go_wp2_with fail
  refine H6.out.mono ?_
  rintro en w2 ⟨hv2, ⟨hk2, ht2⟩, rfl⟩
  go_wp2_with fail
  go_end0
  exact ⟨hv2, ⟨HK.out.1.trans hk2, HK.out.2.trans ht2⟩, rfl⟩
set_option maxHeartbeats 2000000 in
theorem field_M (base E : Nat) (ps : List PartV) (v s t : Value) (f : Fr) (w : World) (h : EncAt base E w ps v) (hE : E < base) (hb : base ≤ w.heap.size) (hl : ps.length ≤ 100) (hf : f.fine) :
    Calls Tryd.prog 20 #[.pointer (some ⟨E, 0, none⟩), .agg (frC f s t), .int .i32 77] w (EncP base E w (ps ++ [nB f.rmw])) := by
  have hB : Below w.heap.size w (w.alloc (.cells (frC f s t) 47)) := (Below.refl _ _).alloc (Nat.le_refl _) _
  have HE := Lib.hid (h.on hB)
  have HK := Lib.hid (And.intro (KB.of_below (B := E) (hB.mono hb)) (KeptE.of hB))
  have HF := Lib.hid hf
  have hsz : (w.alloc (.cells (frC f s t) 47)).heap.size = w.heap.size + 1 := by simp
  have h6 := flag_any base E ps v f.rmw (w.alloc (.cells (frC f s t) 47)) HE.out hE (by omega) (by omega)
  try rw [hsz] at h6
  have H6 := Lib.hid h6
  clear h hB hf hsz h6
  go_enter Tryd.func20, Tryd.ntmps20
  go_wp2_with fail
  refine H6.out.mono ?_
  rintro en w2 ⟨hv2, ⟨hk2, ht2⟩, rfl⟩
  go_wp2_with fail
  go_end0
  exact ⟨hv2, ⟨HK.out.1.trans hk2, HK.out.2.trans ht2⟩, rfl⟩
set_option maxHeartbeats 2000000 in
theorem field_D (base E : Nat) (ps : List PartV) (v s t : Value) (f : Fr) (w : World) (h : EncAt base E w ps v) (hE : E < base) (hb : base ≤ w.heap.size) (hl : ps.length ≤ 100) (hf : f.fine) :
    Calls Tryd.prog 20 #[.pointer (some ⟨E, 0, none⟩), .agg (frC f s t), .int .i32 68] w (EncP base E w (ps ++ [n1 f.dir])) := by
  have hB : Below w.heap.size w (w.alloc (.cells (frC f s t) 47)) := (Below.refl _ _).alloc (Nat.le_refl _) _
  have HE := Lib.hid (h.on hB)
  have HK := Lib.hid (And.intro (KB.of_below (B := E) (hB.mono hb)) (KeptE.of hB))
  obtain ⟨k1, k2, k3, k4, k5, ⟨k6, k7, k8⟩, k9, k10, k11, ⟨k12, k13⟩, k14, ⟨k15, k16, k17, k18, k19⟩, k20, k21, k22, k23⟩ := hf
  have hsz : (w.alloc (.cells (frC f s t) 47)).heap.size = w.heap.size + 1 := by simp
  have h6 := one_1 base E ps v f.dir (w.alloc (.cells (frC f s t) 47)) HE.out hE (by omega) (by omega) k9
  rw [hsz] at h6
  have H6 := Lib.hid h6
  clear h hB hsz h6 k1 k2 k3 k4 k5 k6 k7 k8 k9 k10 k11 k12 k13 k14 k15 k16 k17 k18 k19 k20 k21 k22 k23
  go_enter Tryd.func20, Tryd.ntmps20
  go_wp2_with fail
  refine H6.out.mono ?_
  rintro en w2 ⟨hv2, ⟨hk2, ht2⟩, rfl⟩
  go_wp2_with fail
  go_end0
  exact ⟨hv2, ⟨HK.out.1.trans hk2, HK.out.2.trans ht2⟩, rfl⟩
set_option maxHeartbeats 2000000 in
theorem field_F (base E : Nat) (ps : List PartV) (v s t : Value) (f : Fr) (w : World) (h : EncAt base E w ps v) (hE : E < base) (hb : base ≤ w.heap.size) (hl : ps.length ≤ 100) (hf : f.fine) :
    Calls Tryd.prog 20 #[.pointer (some ⟨E, 0, none⟩), .agg (frC f s t), .int .i32 70] w (EncP base E w (ps ++ [nB f.flag])) := by
  have hB : Below w.heap.size w (w.alloc (.cells (frC f s t) 47)) := (Below.refl _ _).alloc (Nat.le_refl _) _
  have HE := Lib.hid (h.on hB)
  have HK := Lib.hid (And.intro (KB.of_below (B := E) (hB.mono hb)) (KeptE.of hB))
  obtain ⟨k1, k2, k3, k4, k5, ⟨k6, k7, k8⟩, k9, k10, k11, ⟨k12, k13⟩, k14, ⟨k15, k16, k17, k18, k19⟩, k20, k21, k22, k23⟩ := hf
  have hsz : (w.alloc (.cells (frC f s t) 47)).heap.size = w.heap.size + 1 := by simp
  have h6 := flag_any base E ps v f.flag (w.alloc (.cells (frC f s t) 47)) HE.out hE (by omega) (by omega)
  have H6 := Lib.hid h6
  clear h hB hsz h6 k1 k2 k3 k4 k5 k6 k7 k8 k9 k10 k11 k12 k13 k14 k15 k16 k17 k18 k19 k20 k21 k22 k23
  go_enter Tryd.func20, Tryd.ntmps20
  go_wp2_with fail
  refine H6.out.mono ?_
  rintro en w2 ⟨hv2, ⟨hk2, ht2⟩, rfl⟩
  go_wp2_with fail
  go_end0
  exact ⟨hv2, ⟨HK.out.1.trans hk2, HK.out.2.trans ht2⟩, rfl⟩
set_option maxHeartbeats 2000000 in
theorem field_L (base E : Nat) (ps : List PartV) (v s t : Value) (f : Fr) (w : World) (h : EncAt base E w ps v) (hE : E < base) (hb : base ≤ w.heap.size) (hl : ps.length ≤ 100) (hf : f.fine) :
    Calls Tryd.prog 20 #[.pointer (some ⟨E, 0, none⟩), .agg (frC f s t), .int .i32 76] w (EncP base E w (ps ++ [n1 f.life])) := by
  have hB : Below w.heap.size w (w.alloc (.cells (frC f s t) 47)) := (Below.refl _ _).alloc (Nat.le_refl _) _
  have HE := Lib.hid (h.on hB)
  have HK := Lib.hid (And.intro (KB.of_below (B := E) (hB.mono hb)) (KeptE.of hB))
  obtain ⟨k1, k2, k3, k4, k5, ⟨k6, k7, k8⟩, k9, k10, k11, ⟨k12, k13⟩, k14, ⟨k15, k16, k17, k18, k19⟩, k20, k21, k22, k23⟩ := hf
  have hsz : (w.alloc (.cells (frC f s t) 47)).heap.size = w.heap.size + 1 := by simp
  have h6 := one_1 base E ps v f.life (w.alloc (.cells (frC f s t) 47)) HE.out hE (by omega) (by omega) k10
  rw [hsz] at h6
  have H6 := Lib.hid h6
  clear h hB hsz h6 k1 k2 k3 k4 k5 k6 k7 k8 k9 k10 k11 k12 k13 k14 k15 k16 k17 k18 k19 k20 k21 k22 k23
  go_enter Tryd.func20, Tryd.ntmps20
  go_wp2_with fail
  refine H6.out.mono ?_
  rintro en w2 ⟨hv2, ⟨hk2, ht2⟩, rfl⟩
  go_wp2_with fail
  go_end0
  exact ⟨hv2, ⟨HK.out.1.trans hk2, HK.out.2.trans ht2⟩, rfl⟩
set_option maxHeartbeats 2000000 in
theorem field_R (base E : Nat) (ps : List PartV) (v s t : Value) (f : Fr) (w : World) (h : EncAt base E w ps v) (hE : E < base) (hb : base ≤ w.heap.size) (hl : ps.length ≤ 100) (hf : f.fine) :
    Calls Tryd.prog 20 #[.pointer (some ⟨E, 0, none⟩), .agg (frC f s t), .int .i32 82] w (EncP base E w (ps ++ [n4 f.req])) := by
  have hB : Below w.heap.size w (w.alloc (.cells (frC f s t) 47)) := (Below.refl _ _).alloc (Nat.le_refl _) _
  have HE := Lib.hid (h.on hB)
  have HK := Lib.hid (And.intro (KB.of_below (B := E) (hB.mono hb)) (KeptE.of hB))
  obtain ⟨k1, k2, k3, k4, k5, ⟨k6, k7, k8⟩, k9, k10, k11, ⟨k12, k13⟩, k14, ⟨k15, k16, k17, k18, k19⟩, k20, k21, k22, k23⟩ := hf
  have hsz : (w.alloc (.cells (frC f s t) 47)).heap.size = w.heap.size + 1 := by simp
  have h6 := four_1 base E ps v f.req (w.alloc (.cells (frC f s t) 47)) HE.out hE (by omega) (by omega) k11
  rw [hsz] at h6
  have H6 := Lib.hid h6
  clear h hB hsz h6 k1 k2 k3 k4 k5 k6 k7 k8 k9 k10 k11 k12 k13 k14 k15 k16 k17 k18 k19 k20 k21 k22 k23
  go_enter Tryd.func20, Tryd.ntmps20
  go_wp2_with fail
  refine H6.out.mono ?_
  rintro en w2 ⟨hv2, ⟨hk2, ht2⟩, rfl⟩
  go_wp2_with fail
  go_end0
  exact ⟨hv2, ⟨HK.out.1.trans hk2, HK.out.2.trans ht2⟩, rfl⟩
set_option maxHeartbeats 2000000 in
theorem field_B (base E : Nat) (ps : List PartV) (v s t : Value) (f : Fr) (w : World) (h : EncAt base E w ps v) (hE : E < base) (hb : base ≤ w.heap.size) (hl : ps.length ≤ 100) (hf : f.fine) :
    Calls Tryd.prog 20 #[.pointer (some ⟨E, 0, none⟩), .agg (frC f s t), .int .i32 66] w (EncP base E w (ps ++ [n4 f.bn, n1 f.bb])) := by
  have hB : Below w.heap.size w (w.alloc (.cells (frC f s t) 47)) := (Below.refl _ _).alloc (Nat.le_refl _) _
  have HE := Lib.hid (h.on hB)
  have HK := Lib.hid (And.intro (KB.of_below (B := E) (hB.mono hb)) (KeptE.of hB))
  obtain ⟨k1, k2, k3, k4, k5, ⟨k6, k7, k8⟩, k9, k10, k11, ⟨k12, k13⟩, k14, ⟨k15, k16, k17, k18, k19⟩, k20, k21, k22, k23⟩ := hf
  have hsz : (w.alloc (.cells (frC f s t) 47)).heap.size = w.heap.size + 1 := by simp
  have h6 := ballot_any base E ps v f.bn f.bb (w.alloc (.cells (frC f s t) 47)) HE.out hE (by omega) (by omega) k12 k13
  have H6 := Lib.hid h6
  clear h hB hsz h6 k1 k2 k3 k4 k5 k6 k7 k8 k9 k10 k11 k12 k13 k14 k15 k16 k17 k18 k19 k20 k21 k22 k23
  go_enter Tryd.func20, Tryd.ntmps20
  go_wp2_with fail
  refine H6.out.mono ?_
  rintro en w2 ⟨hv2, ⟨hk2, ht2⟩, rfl⟩
  go_wp2_with fail
  go_end0
  exact ⟨hv2, ⟨HK.out.1.trans hk2, HK.out.2.trans ht2⟩, rfl⟩
set_option maxHeartbeats 2000000 in
theorem field_S (base E : Nat) (ps : List PartV) (v s t : Value) (f : Fr) (w : World) (h : EncAt base E w ps v) (hE : E < base) (hb : base ≤ w.heap.size) (hl : ps.length ≤ 100) (hf : f.fine) :
    Calls Tryd.prog 20 #[.pointer (some ⟨E, 0, none⟩), .agg (frC f s t), .int .i32 83] w (EncP base E w (ps ++ [n4 f.slot])) := by
  have hB : Below w.heap.size w (w.alloc (.cells (frC f s t) 47)) := (Below.refl _ _).alloc (Nat.le_refl _) _
  have HE := Lib.hid (h.on hB)
  have HK := Lib.hid (And.intro (KB.of_below (B := E) (hB.mono hb)) (KeptE.of hB))
  obtain ⟨k1, k2, k3, k4, k5, ⟨k6, k7, k8⟩, k9, k10, k11, ⟨k12, k13⟩, k14, ⟨k15, k16, k17, k18, k19⟩, k20, k21, k22, k23⟩ := hf
  have hsz : (w.alloc (.cells (frC f s t) 47)).heap.size = w.heap.size + 1 := by simp
  have h6 := four_1 base E ps v f.slot (w.alloc (.cells (frC f s t) 47)) HE.out hE (by omega) (by omega) k14
  rw [hsz] at h6
  have H6 := Lib.hid h6
  clear h hB hsz h6 k1 k2 k3 k4 k5 k6 k7 k8 k9 k10 k11 k12 k13 k14 k15 k16 k17 k18 k19 k20 k21 k22 k23
  go_enter Tryd.func20, Tryd.ntmps20
  go_wp2_with fail
  refine H6.out.mono ?_
  rintro en w2 ⟨hv2, ⟨hk2, ht2⟩, rfl⟩
  go_wp2_with fail
  go_end0
  exact ⟨hv2, ⟨HK.out.1.trans hk2, HK.out.2.trans ht2⟩, rfl⟩
set_option maxHeartbeats 2000000 in
theorem field_C (base E : Nat) (ps : List PartV) (v s t : Value) (f : Fr) (w : World) (h : EncAt base E w ps v) (hE : E < base) (hb : base ≤ w.heap.size) (hl : ps.length ≤ 100) (hf : f.fine) :
    Calls Tryd.prog 20 #[.pointer (some ⟨E, 0, none⟩), .agg (frC f s t), .int .i32 67] w (EncP base E w (ps ++ [n1 f.cmd.k, n1 f.cmd.n, n1 f.cmd.l, n4 f.cmd.e, n4 f.cmd.r])) := by
  have hB : Below w.heap.size w (w.alloc (.cells (frC f s t) 47)) := (Below.refl _ _).alloc (Nat.le_refl _) _
  have HE := Lib.hid (h.on hB)
  have HK := Lib.hid (And.intro (KB.of_below (B := E) (hB.mono hb)) (KeptE.of hB))
  obtain ⟨k1, k2, k3, k4, k5, ⟨k6, k7, k8⟩, k9, k10, k11, ⟨k12, k13⟩, k14, ⟨k15, k16, k17, k18, k19⟩, k20, k21, k22, k23⟩ := hf
  have hsz : (w.alloc (.cells (frC f s t) 47)).heap.size = w.heap.size + 1 := by simp
  have h6 := command_any base E ps v f.cmd.k f.cmd.n f.cmd.l f.cmd.e f.cmd.r (w.alloc (.cells (frC f s t) 47)) HE.out hE (by omega) (by omega) k15 k16 k17 k18 k19
  have H6 := Lib.hid h6
  clear h hB hsz h6 k1 k2 k3 k4 k5 k6 k7 k8 k9 k10 k11 k12 k13 k14 k15 k16 k17 k18 k19 k20 k21 k22 k23
  go_enter Tryd.func20, Tryd.ntmps20
  go_wp2_with fail
  refine H6.out.mono ?_
  rintro en w2 ⟨hv2, ⟨hk2, ht2⟩, rfl⟩
  go_wp2_with fail
  go_end0
  exact ⟨hv2, ⟨HK.out.1.trans hk2, HK.out.2.trans ht2⟩, rfl⟩
end Go.Proofs.YtodajejjhfpdmaaDoor
