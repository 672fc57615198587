/-
  DecideAlone: what is decided hangs on state and command alone.
-/
import Derived.Test.YtkdlmjgdhdmahaaGreatDoorRows
import Derived.Test.YtkdlmjgdhdmahaaGreatDoorTie
import Derived.Test.YtkdlmjgdhdmahaaGreatDoorCards
import Derived.Test.YtkdlmjgdhdmahaaGreatDoorSVc
import Derived.Test.YtkdlmjgdhdmahaaGreatDoorSVd
import Derived.Test.YtkdlmjgdhdmahaaGreatDoorSVm
import Derived.Test.YtkdlmjgdhdmahaaGreatDoorSVn
import Derived.Test.YtkdlmjgdhdmahaaGreatDoorDSz
import Derived.OpenShut
import Derived.Deep.RegionHeldLaw
namespace Go.Proofs.YtkdlmjgdhdmahaaGreatDoor.decideAlone
open Go Go.ChangeShapes Go.WideShapes Go.ChangeAt Go.RowKit
open Go.Proofs.YtkdlmjgdhdmahaaGreatDoor.B Go.Proofs.YtkdlmjgdhdmahaaGreatDoor.K Go.Proofs.YtkdlmjgdhdmahaaGreatDoor.E Go.Proofs.YtkdlmjgdhdmahaaGreatDoor.R Go.Proofs.YtkdlmjgdhdmahaaGreatDoor.D
set_option linter.unusedVariables false
set_option maxRecDepth 100000

theorem own : ownKnob Tryz.prog.godebug = none := by kernel_rfl
theorem laidOut : laidOutB Tryz.prog = true := by kernel_rfl

theorem be1 (w : World) (a : Obj) : Below w.heap.size w (w.alloc a).drew := (below_alloc w a).drew
theorem al2 (w : World) (a b : Obj) : Below w.heap.size w ((w.alloc a).alloc b) := (below_alloc w a).trans ((below_alloc _ _).mono (below_alloc w a).size)
theorem al3 (w : World) (a b c : Obj) : Below w.heap.size w (((w.alloc a).alloc b).alloc c) := (al2 w a b).trans ((below_alloc _ _).mono (al2 w a b).size)
theorem al4 (w : World) (a b c d : Obj) : Below w.heap.size w ((((w.alloc a).alloc b).alloc c).alloc d) := (al3 w a b c).trans ((below_alloc _ _).mono (al3 w a b c).size)
theorem be2 (w : World) (a b : Obj) : Below w.heap.size w ((w.alloc a).alloc b).drew := (al2 w a b).drew
theorem be3 (w : World) (a b c : Obj) : Below w.heap.size w (((w.alloc a).alloc b).alloc c).drew := (al3 w a b c).drew
theorem be4 (w : World) (a b c d : Obj) : Below w.heap.size w ((((w.alloc a).alloc b).alloc c).alloc d).drew := (al4 w a b c d).drew
theorem al4_at (w : World) (a b c d : Obj) : (((((w.alloc a).alloc b).alloc c).alloc d).drew.heap[w.heap.size]? = some a) ∧ (((((w.alloc a).alloc b).alloc c).alloc d).drew.heap[w.heap.size + 1]? = some b) ∧ (((((w.alloc a).alloc b).alloc c).alloc d).drew.heap[w.heap.size + 1 + 1]? = some c) ∧ (((((w.alloc a).alloc b).alloc c).alloc d).drew.heap[w.heap.size + 1 + 1 + 1]? = some d) := by
  have s1 : (w.alloc a).heap.size = w.heap.size + 1 := by simp
  have s2 : ((w.alloc a).alloc b).heap.size = w.heap.size + 1 + 1 := by simp
  have s3 : (((w.alloc a).alloc b).alloc c).heap.size = w.heap.size + 1 + 1 + 1 := by simp
  have h0 := heap_alloc_at w a
  have h1 := heap_alloc_at (w.alloc a) b
  have h2 := heap_alloc_at ((w.alloc a).alloc b) c
  have h3 := heap_alloc_at (((w.alloc a).alloc b).alloc c) d
  rw [s1] at h1
  rw [s2] at h2
  rw [s3] at h3
  refine ⟨?_, ?_, ?_, h3⟩
  · show ((((w.alloc a).alloc b).alloc c).alloc d).heap[w.heap.size]? = _
    rw [Below.heap_alloc _ _ _ (by rw [s3]; omega), Below.heap_alloc _ _ _ (by rw [s2]; omega), Below.heap_alloc _ _ _ (by rw [s1]; omega)]; exact h0
  · show ((((w.alloc a).alloc b).alloc c).alloc d).heap[w.heap.size + 1]? = _
    rw [Below.heap_alloc _ _ _ (by rw [s3]; omega), Below.heap_alloc _ _ _ (by rw [s2]; omega)]; exact h1
  · show ((((w.alloc a).alloc b).alloc c).alloc d).heap[w.heap.size + 1 + 1]? = _
    rw [Below.heap_alloc _ _ _ (by rw [s3]; omega)]; exact h2

/-- The four parts in boxes of their own. -/
structure Q4 (g3 g4 g5 g6 : Nat) (tb st cm ot : Array Value) (W : World) : Prop where
  b3 : W.heap[g3]? = some (.cells tb 26 (0, 0))
  b4 : W.heap[g4]? = some (.cells st 41 (0, 0))
  b5 : W.heap[g5]? = some (.cells cm 43 (0, 0))
  b6 : W.heap[g6]? = some (.cells ot 43 (0, 0))
theorem keep_blk {W W' : World} {g : Nat} {o : Obj} (h : W.heap[g]? = some o) (hb : Below W.heap.size W W') : W'.heap[g]? = some o := (hb.block _ (Array.getElem?_eq_some_iff.1 h).1).trans h
theorem Q4.below {g3 g4 g5 g6 : Nat} {tb st cm ot : Array Value} {W W' : World} (h : Q4 g3 g4 g5 g6 tb st cm ot W) (hb : Below W.heap.size W W') : Q4 g3 g4 g5 g6 tb st cm ot W' := ⟨keep_blk h.b3 hb, keep_blk h.b4 hb, keep_blk h.b5 hb, keep_blk h.b6 hb⟩
theorem Q4.off {g3 g4 g5 g6 : Nat} {tb st cm ot : Array Value} {W : World} (h : Q4 g3 g4 g5 g6 tb st cm ot W) {g : Nat} (n3 : g3 ≠ g) (n4 : g4 ≠ g) (n5 : g5 ≠ g) (n6 : g6 ≠ g) (j : Nat) (v : Value) : Q4 g3 g4 g5 g6 tb st cm ot (W.setCell ⟨g, j, none⟩ v) :=
  ⟨(heap_setCell_other _ ⟨g, j, none⟩ g3 _ n3).trans h.b3, (heap_setCell_other _ ⟨g, j, none⟩ g4 _ n4).trans h.b4, (heap_setCell_other _ ⟨g, j, none⟩ g5 _ n5).trans h.b5, (heap_setCell_other _ ⟨g, j, none⟩ g6 _ n6).trans h.b6⟩
theorem Q4.set5 {g3 g4 g5 g6 : Nat} {tb st cm ot : Array Value} {W : World} (h : Q4 g3 g4 g5 g6 tb st cm ot W) (n3 : g3 ≠ g5) (n4 : g4 ≠ g5) (n6 : g6 ≠ g5) (j : Nat) (v : Value) : Q4 g3 g4 g5 g6 tb st (cm.setIfInBounds j v) ot (W.setCell ⟨g5, j, none⟩ v) :=
  ⟨(heap_setCell_other _ ⟨g5, j, none⟩ g3 _ n3).trans h.b3, (heap_setCell_other _ ⟨g5, j, none⟩ g4 _ n4).trans h.b4, heap_setCell_same _ g5 j _ _ _ h.b5, (heap_setCell_other _ ⟨g5, j, none⟩ g6 _ n6).trans h.b6⟩
theorem blk {W : World} {g : Nat} {arr : Array Value} {T : TypeId} (h : W.heap[g]? = some (.cells arr T (0, 0))) {i : Nat} {v : Value} (hi : arr[i]? = some v) : W.cell? ⟨g, i, none⟩ = some v ∧ W.frozen? ⟨g, i, none⟩ = false := by
  constructor <;> simp [World.cell?, World.frozen?, h, hi]

def Al (W0 : World) (tb st cm ot : Array Value) (s3 s4 s5 s6 : Value) (wx : World) : Prop :=
  ∃ g3 g4 g5 g6, s3 = .pointer (some ⟨g3, 0, none⟩) ∧ s4 = .pointer (some ⟨g4, 0, none⟩) ∧ s5 = .pointer (some ⟨g5, 0, none⟩) ∧ s6 = .pointer (some ⟨g6, 0, none⟩) ∧
    (g3 ≠ g4 ∧ g3 ≠ g5 ∧ g3 ≠ g6 ∧ g4 ≠ g5 ∧ g4 ≠ g6 ∧ g5 ≠ g6) ∧ (W0.heap.size ≤ g3 ∧ W0.heap.size ≤ g4 ∧ W0.heap.size ≤ g5 ∧ W0.heap.size ≤ g6) ∧ Below W0.heap.size W0 wx ∧ Q4 g3 g4 g5 g6 tb st cm ot wx

theorem dec_small {t : Tb} {s : Stt} {c : Cm} (hc : chk5 t = (0, 0, 0, 0)) : (decide7 t s c).1.length ≤ 9223372036854775807 ∧ ∀ e ∈ (decide7 t s c).1, e.vars.length ≤ 4611686018427387904 := by
  have hf := fine_of hc
  by_cases h : (decide7 t s c).2 = 0
  · obtain ⟨n, r, _, _, h1, h2, h3⟩ := dec_ok hc h
    exact ⟨by omega, fun e he => by have := (h3 e he).2.1; have := hf.vars; omega⟩
  · rw [(dec_code h).1]
    exact ⟨Nat.zero_le _, fun e he => by cases he⟩

theorem four7_arg {H : Type} {enc : TypeId × Value → H} {W : World} {base : Nat} {v : Value} {d : DataW H} {p : List MemPlace} (hval : Value.okWide Tryz.prog W .any base 60 v) (hd : DataW.Trod enc Tryz.prog W 0 (fun _ => true) true 60 v d p) :
    ∃ c0 c1 c2 c3 t s u c x d y, v = .agg #[c0, c1, c2, c3, .int .i64 s.pos, .int .i64 s.ver, u, .int .i64 c.client, .int .i64 c.seq, sv c.stream, .int .i64 c.rule, x, .int .i64 c.expect, .int .i64 d.client, .int .i64 d.seq, sv d.stream, .int .i64 d.rule, y, .int .i64 d.expect] ∧
      TbIs W [c0, c1, c2, c3] t ∧ TbWf t ∧ SlN W u s.vars ∧ StWf s ∧ SlN W x c.args ∧ CmWf c ∧ SlN W y d.args ∧ CmWf d := by
  obtain ⟨cs, rfl, hsz⟩ := okWide_struct Tryz.underlying60 hval
  obtain ⟨fuel, hf0⟩ := hd
  have hf1 : DataW.trod enc Tryz.prog W 0 (fun _ => true) true fuel 60 cs.toList = some (d, p) := hf0
  obtain ⟨xs, m, _, hx, hcl, hxl, hg⟩ := DataW.trod_struct Tryz.underlying60 hf1
  have h7 : cs.toList.length = 19 := hcl.trans (by kernel_rfl)
  obtain ⟨l⟩ := cs
  match l, h7 with
  | [c0, c1, c2, c3, c4, c5, c6, c7, c8, c9, c10, c11, c12, c13, c14, c15, c16, c17, c18], _ =>
    have hl4 : xs.length = 4 := hxl.trans (by kernel_rfl)
    have t0 := hg 0 _ rfl
    have t1 := hg 1 _ rfl
    have t2 := hg 2 _ rfl
    have t3 := hg 3 _ rfl
    rw [List.getElem?_eq_getElem (by omega)] at t0 t1 t2 t3
    obtain ⟨hl, m2, hf⟩ := each_cell Tryz.underlying26 (by kernel_rfl) (by kernel_rfl) (show DataW.trod enc Tryz.prog W 0 (fun _ => true) true m 26 [c0, c1, c2, c3] = some _ from t0)
    obtain ⟨k0, z0, e0, u0⟩ := hf 0 _ rfl
    obtain ⟨k1, z1, e1, u1⟩ := hf 1 _ rfl
    obtain ⟨k2, z2, e2, u2⟩ := hf 2 _ rfl
    obtain ⟨k3, z3, e3, u3⟩ := hf 3 _ rfl
    cases e0
    cases e1
    cases e2
    cases e3
    obtain ⟨t, ht, hwf⟩ := tb_cells u0 u1 u2 u3
    obtain ⟨hl', m3, hf'⟩ := each_cell Tryz.underlying41 (by kernel_rfl) (by kernel_rfl) (show DataW.trod enc Tryz.prog W 0 (fun _ => true) true m 41 [c4, c5, c6] = some _ from t1)
    obtain ⟨k0, z0, e0, u0⟩ := hf' 0 _ rfl
    obtain ⟨k1, z1, e1, u1⟩ := hf' 1 _ rfl
    obtain ⟨k2, z2, e2, u2⟩ := hf' 2 _ rfl
    cases e0
    cases e1
    cases e2
    obtain ⟨s, rfl, rfl, hs, hsw⟩ := st_cells u0 u1 u2
    obtain ⟨c, ⟨x, hce, hc⟩, hcw⟩ := cm_cell (show DataW.trod enc Tryz.prog W 0 (fun _ => true) true m 43 [c7, c8, c9, c10, c11, c12] = some _ from t2)
    cases hce
    obtain ⟨d, ⟨y, hde, hd⟩, hdw⟩ := cm_cell (show DataW.trod enc Tryz.prog W 0 (fun _ => true) true m 43 [c13, c14, c15, c16, c17, c18] = some _ from t3)
    cases hde
    exact ⟨c0, c1, c2, c3, t, s, _, c, _, d, _, rfl, ht, hwf, hs, hsw, hc, hcw, hd, hdw⟩

set_option maxHeartbeats 8000000 in
theorem walk (t : Tb) (c0 c1 c2 c3 : Value) (s : Stt) (v : Value) (c : Cm) (u : Value) (d : Cm) (x : Value) (w : World) (h : TbIs w [c0, c1, c2, c3] t) (hw : TbWf t) (hs : SlN w v s.vars) (hsw : StWf s) (hc : SlN w u c.args) (hcw : CmWf c) (hd : SlN w x d.args) (hdw : CmWf d) (hG : I.Glob w) :
    Calls Tryz.prog 9 #[.agg #[c0, c1, c2, c3, .int .i64 s.pos, .int .i64 s.ver, v, .int .i64 c.client, .int .i64 c.seq, sv c.stream, .int .i64 c.rule, u, .int .i64 c.expect, .int .i64 d.client, .int .i64 d.seq, sv d.stream, .int .i64 d.rule, x, .int .i64 d.expect]] w fun e w' => e = .returned (.bool true) ∧ Below w.heap.size w w' := by
  have hsh : ∃ a0 n0 k0 a1 n1 k1 a2 n2 k2 a3 n3 k3, c0 = .slice a0 n0 k0 ∧ c1 = .slice a1 n1 k1 ∧ c2 = .slice a2 n2 k2 ∧ c3 = .slice a3 n3 k3 := by
    obtain ⟨d0, d1, d2, d3, e, h0, h1, h2, h3⟩ := h
    cases e
    obtain ⟨a0, k0, e0⟩ := sl_len h0
    obtain ⟨a1, k1, e1⟩ := sl_len h1
    obtain ⟨a2, k2, e2⟩ := sl_len h2
    obtain ⟨a3, k3, e3, -⟩ := h3.open
    exact ⟨a0, _, k0, a1, _, k1, a2, _, k2, a3, _, k3, e0, e1, e2, e3⟩
  obtain ⟨a0, n0, k0, a1, n1, k1, a2, n2, k2, a3, n3, k3, rfl, rfl, rfl, rfl⟩ := hsh
  obtain ⟨av, kv, rfl⟩ := sl_len hs
  obtain ⟨au, ku, rfl⟩ := sl_len hc
  obtain ⟨ax, kx, rfl⟩ := sl_len hd
  obtain ⟨nv, hnv⟩ : ∃ n, (List.map (fun n => Value.int IntKind.i64 n) s.vars).length = n := ⟨_, rfl⟩
  obtain ⟨nu, hnu⟩ : ∃ n, (List.map (fun n => Value.int IntKind.i64 n) c.args).length = n := ⟨_, rfl⟩
  obtain ⟨nx, hnx⟩ : ∃ n, (List.map (fun n => Value.int IntKind.i64 n) d.args).length = n := ⟨_, rfl⟩
  rw [hnv] at hs ⊢
  rw [hnu] at hc ⊢
  rw [hnx] at hd ⊢
  unfold sv
  have HT := Lib.hid h
  have HWF := Lib.hid hw
  have HV := Lib.hid hs
  have HSW := Lib.hid hsw
  have HC := Lib.hid hc
  have HCW := Lib.hid hcw
  have HDS := Lib.hid hd
  have HDW := Lib.hid hdw
  have HG := Lib.hid hG
  obtain ⟨sp, hsp⟩ : ∃ y, s.pos = y := ⟨_, rfl⟩
  obtain ⟨sr, hsr⟩ : ∃ y, s.ver = y := ⟨_, rfl⟩
  obtain ⟨cc, hcc⟩ : ∃ y, c.client = y := ⟨_, rfl⟩
  obtain ⟨cq, hcq⟩ : ∃ y, c.seq = y := ⟨_, rfl⟩
  obtain ⟨cx, hcx⟩ : ∃ y, str c.stream = y := ⟨_, rfl⟩
  obtain ⟨cr, hcr⟩ : ∃ y, c.rule = y := ⟨_, rfl⟩
  obtain ⟨ce, hce⟩ : ∃ y, c.expect = y := ⟨_, rfl⟩
  obtain ⟨dc, hdc⟩ : ∃ y, d.client = y := ⟨_, rfl⟩
  obtain ⟨dq, hdq⟩ : ∃ y, d.seq = y := ⟨_, rfl⟩
  obtain ⟨dx, hdx⟩ : ∃ y, str d.stream = y := ⟨_, rfl⟩
  obtain ⟨dr, hdr⟩ : ∃ y, d.rule = y := ⟨_, rfl⟩
  obtain ⟨de, hde⟩ : ∃ y, d.expect = y := ⟨_, rfl⟩
  rw [hsp, hsr, hcc, hcq, hcx, hcr, hce, hdc, hdq, hdx, hdr, hde]
  obtain ⟨W0, hW0⟩ : ∃ W0, w.alloc (.cells #[.slice a0 n0 k0, .slice a1 n1 k1, .slice a2 n2 k2, .slice a3 n3 k3, .int .i64 sp, .int .i64 sr, .slice av nv kv, .int .i64 cc, .int .i64 cq, .string cx, .int .i64 cr, .slice au nu ku, .int .i64 ce, .int .i64 dc, .int .i64 dq, .string dx, .int .i64 dr, .slice ax nx kx, .int .i64 de] 60) = W0 := ⟨_, rfl⟩
  have hB0 : Below w.heap.size w W0 := by rw [← hW0]; exact below_alloc _ _
  have q0 : W0.cell? ⟨w.heap.size, 0, none⟩ = some (.slice a0 n0 k0) := by rw [← hW0]; exact box_cell _ _ _ _ _ rfl
  have q1 : W0.cell? ⟨w.heap.size, 1, none⟩ = some (.slice a1 n1 k1) := by rw [← hW0]; exact box_cell _ _ _ _ _ rfl
  have q2 : W0.cell? ⟨w.heap.size, 2, none⟩ = some (.slice a2 n2 k2) := by rw [← hW0]; exact box_cell _ _ _ _ _ rfl
  have q3 : W0.cell? ⟨w.heap.size, 3, none⟩ = some (.slice a3 n3 k3) := by rw [← hW0]; exact box_cell _ _ _ _ _ rfl
  have q4 : W0.cell? ⟨w.heap.size, 4, none⟩ = some (.int .i64 sp) := by rw [← hW0]; exact box_cell _ _ _ _ _ rfl
  have q5 : W0.cell? ⟨w.heap.size, 5, none⟩ = some (.int .i64 sr) := by rw [← hW0]; exact box_cell _ _ _ _ _ rfl
  have q6 : W0.cell? ⟨w.heap.size, 6, none⟩ = some (.slice av nv kv) := by rw [← hW0]; exact box_cell _ _ _ _ _ rfl
  have q7 : W0.cell? ⟨w.heap.size, 7, none⟩ = some (.int .i64 cc) := by rw [← hW0]; exact box_cell _ _ _ _ _ rfl
  have q8 : W0.cell? ⟨w.heap.size, 8, none⟩ = some (.int .i64 cq) := by rw [← hW0]; exact box_cell _ _ _ _ _ rfl
  have q9 : W0.cell? ⟨w.heap.size, 9, none⟩ = some (.string cx) := by rw [← hW0]; exact box_cell _ _ _ _ _ rfl
  have q10 : W0.cell? ⟨w.heap.size, 10, none⟩ = some (.int .i64 cr) := by rw [← hW0]; exact box_cell _ _ _ _ _ rfl
  have q11 : W0.cell? ⟨w.heap.size, 11, none⟩ = some (.slice au nu ku) := by rw [← hW0]; exact box_cell _ _ _ _ _ rfl
  have q12 : W0.cell? ⟨w.heap.size, 12, none⟩ = some (.int .i64 ce) := by rw [← hW0]; exact box_cell _ _ _ _ _ rfl
  have q13 : W0.cell? ⟨w.heap.size, 13, none⟩ = some (.int .i64 dc) := by rw [← hW0]; exact box_cell _ _ _ _ _ rfl
  have q14 : W0.cell? ⟨w.heap.size, 14, none⟩ = some (.int .i64 dq) := by rw [← hW0]; exact box_cell _ _ _ _ _ rfl
  have q15 : W0.cell? ⟨w.heap.size, 15, none⟩ = some (.string dx) := by rw [← hW0]; exact box_cell _ _ _ _ _ rfl
  have q16 : W0.cell? ⟨w.heap.size, 16, none⟩ = some (.int .i64 dr) := by rw [← hW0]; exact box_cell _ _ _ _ _ rfl
  have q17 : W0.cell? ⟨w.heap.size, 17, none⟩ = some (.slice ax nx kx) := by rw [← hW0]; exact box_cell _ _ _ _ _ rfl
  have q18 : W0.cell? ⟨w.heap.size, 18, none⟩ = some (.int .i64 de) := by rw [← hW0]; exact box_cell _ _ _ _ _ rfl
  have HB0 := Lib.hid hB0
  have HKP := Lib.hid (fun (Wa Wb : World) (hb : Below Wa.heap.size Wa Wb) (h : Wa.cell? ⟨w.heap.size, 0, none⟩ = some (.slice a0 n0 k0) ∧ Wa.cell? ⟨w.heap.size, 1, none⟩ = some (.slice a1 n1 k1) ∧ Wa.cell? ⟨w.heap.size, 2, none⟩ = some (.slice a2 n2 k2) ∧ Wa.cell? ⟨w.heap.size, 3, none⟩ = some (.slice a3 n3 k3) ∧ Wa.cell? ⟨w.heap.size, 4, none⟩ = some (.int .i64 sp) ∧ Wa.cell? ⟨w.heap.size, 5, none⟩ = some (.int .i64 sr) ∧ Wa.cell? ⟨w.heap.size, 6, none⟩ = some (.slice av nv kv) ∧ Wa.cell? ⟨w.heap.size, 7, none⟩ = some (.int .i64 cc) ∧ Wa.cell? ⟨w.heap.size, 8, none⟩ = some (.int .i64 cq) ∧ Wa.cell? ⟨w.heap.size, 9, none⟩ = some (.string cx) ∧ Wa.cell? ⟨w.heap.size, 10, none⟩ = some (.int .i64 cr) ∧ Wa.cell? ⟨w.heap.size, 11, none⟩ = some (.slice au nu ku) ∧ Wa.cell? ⟨w.heap.size, 12, none⟩ = some (.int .i64 ce) ∧ Wa.cell? ⟨w.heap.size, 13, none⟩ = some (.int .i64 dc) ∧ Wa.cell? ⟨w.heap.size, 14, none⟩ = some (.int .i64 dq) ∧ Wa.cell? ⟨w.heap.size, 15, none⟩ = some (.string dx) ∧ Wa.cell? ⟨w.heap.size, 16, none⟩ = some (.int .i64 dr) ∧ Wa.cell? ⟨w.heap.size, 17, none⟩ = some (.slice ax nx kx) ∧ Wa.cell? ⟨w.heap.size, 18, none⟩ = some (.int .i64 de) ∧ Below W0.heap.size W0 Wa) => show Wb.cell? ⟨w.heap.size, 0, none⟩ = some (.slice a0 n0 k0) ∧ Wb.cell? ⟨w.heap.size, 1, none⟩ = some (.slice a1 n1 k1) ∧ Wb.cell? ⟨w.heap.size, 2, none⟩ = some (.slice a2 n2 k2) ∧ Wb.cell? ⟨w.heap.size, 3, none⟩ = some (.slice a3 n3 k3) ∧ Wb.cell? ⟨w.heap.size, 4, none⟩ = some (.int .i64 sp) ∧ Wb.cell? ⟨w.heap.size, 5, none⟩ = some (.int .i64 sr) ∧ Wb.cell? ⟨w.heap.size, 6, none⟩ = some (.slice av nv kv) ∧ Wb.cell? ⟨w.heap.size, 7, none⟩ = some (.int .i64 cc) ∧ Wb.cell? ⟨w.heap.size, 8, none⟩ = some (.int .i64 cq) ∧ Wb.cell? ⟨w.heap.size, 9, none⟩ = some (.string cx) ∧ Wb.cell? ⟨w.heap.size, 10, none⟩ = some (.int .i64 cr) ∧ Wb.cell? ⟨w.heap.size, 11, none⟩ = some (.slice au nu ku) ∧ Wb.cell? ⟨w.heap.size, 12, none⟩ = some (.int .i64 ce) ∧ Wb.cell? ⟨w.heap.size, 13, none⟩ = some (.int .i64 dc) ∧ Wb.cell? ⟨w.heap.size, 14, none⟩ = some (.int .i64 dq) ∧ Wb.cell? ⟨w.heap.size, 15, none⟩ = some (.string dx) ∧ Wb.cell? ⟨w.heap.size, 16, none⟩ = some (.int .i64 dr) ∧ Wb.cell? ⟨w.heap.size, 17, none⟩ = some (.slice ax nx kx) ∧ Wb.cell? ⟨w.heap.size, 18, none⟩ = some (.int .i64 de) ∧ Below W0.heap.size W0 Wb from ⟨kept_cell hb h.1, kept_cell hb h.2.1, kept_cell hb h.2.2.1, kept_cell hb h.2.2.2.1, kept_cell hb h.2.2.2.2.1, kept_cell hb h.2.2.2.2.2.1, kept_cell hb h.2.2.2.2.2.2.1, kept_cell hb h.2.2.2.2.2.2.2.1, kept_cell hb h.2.2.2.2.2.2.2.2.1, kept_cell hb h.2.2.2.2.2.2.2.2.2.1, kept_cell hb h.2.2.2.2.2.2.2.2.2.2.1, kept_cell hb h.2.2.2.2.2.2.2.2.2.2.2.1, kept_cell hb h.2.2.2.2.2.2.2.2.2.2.2.2.1, kept_cell hb h.2.2.2.2.2.2.2.2.2.2.2.2.2.1, kept_cell hb h.2.2.2.2.2.2.2.2.2.2.2.2.2.2.1, kept_cell hb h.2.2.2.2.2.2.2.2.2.2.2.2.2.2.2.1, kept_cell hb h.2.2.2.2.2.2.2.2.2.2.2.2.2.2.2.2.1, kept_cell hb h.2.2.2.2.2.2.2.2.2.2.2.2.2.2.2.2.2.1, kept_cell hb h.2.2.2.2.2.2.2.2.2.2.2.2.2.2.2.2.2.2.1, h.2.2.2.2.2.2.2.2.2.2.2.2.2.2.2.2.2.2.2.trans (hb.mono h.2.2.2.2.2.2.2.2.2.2.2.2.2.2.2.2.2.2.2.size)⟩)
  have HSZ := Lib.hid (show W0.cell? ⟨w.heap.size, 0, none⟩ = some (.slice a0 n0 k0) ∧ W0.cell? ⟨w.heap.size, 1, none⟩ = some (.slice a1 n1 k1) ∧ W0.cell? ⟨w.heap.size, 2, none⟩ = some (.slice a2 n2 k2) ∧ W0.cell? ⟨w.heap.size, 3, none⟩ = some (.slice a3 n3 k3) ∧ W0.cell? ⟨w.heap.size, 4, none⟩ = some (.int .i64 sp) ∧ W0.cell? ⟨w.heap.size, 5, none⟩ = some (.int .i64 sr) ∧ W0.cell? ⟨w.heap.size, 6, none⟩ = some (.slice av nv kv) ∧ W0.cell? ⟨w.heap.size, 7, none⟩ = some (.int .i64 cc) ∧ W0.cell? ⟨w.heap.size, 8, none⟩ = some (.int .i64 cq) ∧ W0.cell? ⟨w.heap.size, 9, none⟩ = some (.string cx) ∧ W0.cell? ⟨w.heap.size, 10, none⟩ = some (.int .i64 cr) ∧ W0.cell? ⟨w.heap.size, 11, none⟩ = some (.slice au nu ku) ∧ W0.cell? ⟨w.heap.size, 12, none⟩ = some (.int .i64 ce) ∧ W0.cell? ⟨w.heap.size, 13, none⟩ = some (.int .i64 dc) ∧ W0.cell? ⟨w.heap.size, 14, none⟩ = some (.int .i64 dq) ∧ W0.cell? ⟨w.heap.size, 15, none⟩ = some (.string dx) ∧ W0.cell? ⟨w.heap.size, 16, none⟩ = some (.int .i64 dr) ∧ W0.cell? ⟨w.heap.size, 17, none⟩ = some (.slice ax nx kx) ∧ W0.cell? ⟨w.heap.size, 18, none⟩ = some (.int .i64 de) ∧ Below W0.heap.size W0 W0 from ⟨q0, q1, q2, q3, q4, q5, q6, q7, q8, q9, q10, q11, q12, q13, q14, q15, q16, q17, q18, Below.refl _ _⟩)
  have HSD := Lib.hid (show W0.drew.cell? ⟨w.heap.size, 0, none⟩ = some (.slice a0 n0 k0) ∧ W0.drew.cell? ⟨w.heap.size, 1, none⟩ = some (.slice a1 n1 k1) ∧ W0.drew.cell? ⟨w.heap.size, 2, none⟩ = some (.slice a2 n2 k2) ∧ W0.drew.cell? ⟨w.heap.size, 3, none⟩ = some (.slice a3 n3 k3) ∧ W0.drew.cell? ⟨w.heap.size, 4, none⟩ = some (.int .i64 sp) ∧ W0.drew.cell? ⟨w.heap.size, 5, none⟩ = some (.int .i64 sr) ∧ W0.drew.cell? ⟨w.heap.size, 6, none⟩ = some (.slice av nv kv) ∧ W0.drew.cell? ⟨w.heap.size, 7, none⟩ = some (.int .i64 cc) ∧ W0.drew.cell? ⟨w.heap.size, 8, none⟩ = some (.int .i64 cq) ∧ W0.drew.cell? ⟨w.heap.size, 9, none⟩ = some (.string cx) ∧ W0.drew.cell? ⟨w.heap.size, 10, none⟩ = some (.int .i64 cr) ∧ W0.drew.cell? ⟨w.heap.size, 11, none⟩ = some (.slice au nu ku) ∧ W0.drew.cell? ⟨w.heap.size, 12, none⟩ = some (.int .i64 ce) ∧ W0.drew.cell? ⟨w.heap.size, 13, none⟩ = some (.int .i64 dc) ∧ W0.drew.cell? ⟨w.heap.size, 14, none⟩ = some (.int .i64 dq) ∧ W0.drew.cell? ⟨w.heap.size, 15, none⟩ = some (.string dx) ∧ W0.drew.cell? ⟨w.heap.size, 16, none⟩ = some (.int .i64 dr) ∧ W0.drew.cell? ⟨w.heap.size, 17, none⟩ = some (.slice ax nx kx) ∧ W0.drew.cell? ⟨w.heap.size, 18, none⟩ = some (.int .i64 de) ∧ Below W0.heap.size W0 W0.drew from ⟨q0, q1, q2, q3, q4, q5, q6, q7, q8, q9, q10, q11, q12, q13, q14, q15, q16, q17, q18, (Below.refl _ _).drew⟩)
  have HD1 := Lib.hid (fun (W : World) (hb : Below w.heap.size w W) => (show Calls Tryz.prog 17 #[.agg #[.slice a0 n0 k0, .slice a1 n1 k1, .slice a2 n2 k2, .slice a3 n3 k3], .agg #[.int .i64 sp, .int .i64 sr, .slice av nv kv], .agg #[.int .i64 cc, .int .i64 cq, .string cx, .int .i64 cr, .slice au nu ku, .int .i64 (-1)]] W (DecOut (decide7 t s ⟨c.client, c.seq, c.stream, c.rule, c.args, -1⟩) W) from by
    rw [← hsp, ← hsr, ← hcc, ← hcq, ← hcx, ← hcr]
    exact decide_any t s ⟨c.client, c.seq, c.stream, c.rule, c.args, -1⟩ _ _ _ _ _ _ W (HT.out.below hb) HWF.out (Sl.below HV.out hb) HSW.out.2.2.2 (Sl.below HC.out hb) ⟨HCW.out.1, HCW.out.2.1, HCW.out.2.2.1, HCW.out.2.2.2.1, HCW.out.2.2.2.2.1, show I64 (-1) from ⟨by decide, by decide⟩⟩ (HG.out.below hb)))
  have HD2 := Lib.hid (fun (W : World) (hb : Below w.heap.size w W) => (show Calls Tryz.prog 17 #[.agg #[.slice a0 n0 k0, .slice a1 n1 k1, .slice a2 n2 k2, .slice a3 n3 k3], .agg #[.int .i64 sp, .int .i64 sr, .slice av nv kv], .agg #[.int .i64 dc, .int .i64 dq, .string dx, .int .i64 dr, .slice ax nx kx, .int .i64 de]] W (DecOut (decide7 t s d) W) from by
    rw [← hsp, ← hsr, ← hdc, ← hdq, ← hdx, ← hdr, ← hde]
    exact decide_any t s d _ _ _ _ _ _ W (HT.out.below hb) HWF.out (Sl.below HV.out hb) HSW.out.2.2.2 (Sl.below HDS.out hb) HDW.out (HG.out.below hb)))
  have HD3 := Lib.hid (fun (ee : Int) (he : I64 ee) (W : World) (hb : Below w.heap.size w W) => (show Calls Tryz.prog 17 #[.agg #[.slice a0 n0 k0, .slice a1 n1 k1, .slice a2 n2 k2, .slice a3 n3 k3], .agg #[.int .i64 sp, .int .i64 sr, .slice av nv kv], .agg #[.int .i64 dc, .int .i64 dq, .string dx, .int .i64 cr, .slice au nu ku, .int .i64 ee]] W (DecOut (decide7 t s ⟨d.client, d.seq, d.stream, c.rule, c.args, ee⟩) W) from by
    rw [← hsp, ← hsr, ← hdc, ← hdq, ← hdx, ← hcr]
    exact decide_any t s ⟨d.client, d.seq, d.stream, c.rule, c.args, ee⟩ _ _ _ _ _ _ W (HT.out.below hb) HWF.out (Sl.below HV.out hb) HSW.out.2.2.2 (Sl.below HC.out hb) ⟨HDW.out.1, HDW.out.2.1, HDW.out.2.2.1, HCW.out.2.2.2.1, HCW.out.2.2.2.2.1, he⟩ (HG.out.below hb)))
  have HLR := Lib.hid (fun (W : World) (hb : Below w.heap.size w W) => lawRight_any t _ _ _ _ W (h.below hb) hw)
  have HAW := Lib.hid (fun (W : World) (hb : Below w.heap.size w W) => awake_any W (hG.below hb))
  have HRR0 := fun (W : World) (hb : Below w.heap.size w W) => refRight7_any t s _ _ _ _ _ W (h.below hb) hw (Sl.below hs hb) hsw.2.2.2
  rw [hsp, hsr] at HRR0
  obtain ⟨B, hB⟩ : ∃ B, mayB t = B := ⟨_, rfl⟩
  obtain ⟨St, hSt⟩ : ∃ B, stands t s = B := ⟨_, rfl⟩
  rw [hB] at HLR
  rw [hSt] at HRR0
  have HRR := Lib.hid HRR0
  have HBB := Lib.hid hB
  have HSS := Lib.hid hSt
  have HSR := Lib.hid hsr
  have HIV := Lib.hid (show I64 sr by rw [← hsr]; exact hsw.2.1)
  clear HRR0 hB hSt hnv hnu hnx hsp hsr hcc hcq hcx hcr hce hdc hdq hdx hdr hde h hw hs hsw hc hcw hd hdw hG hB0 q0 q1 q2 q3 q4 q5 q6 q7 q8 q9 q10 q11 q12 q13 q14 q15 q16 q17 q18
  go_enter Tryz.func9, Tryz.ntmps9
  go_upto_region 1 with fail
  clear hW0
  go_cut [3, 4, 5, 6] from 14 to 21 (fun s3 s4 s5 s6 wx => Al W0 #[.slice a0 n0 k0, .slice a1 n1 k1, .slice a2 n2 k2, .slice a3 n3 k3] #[.int .i64 sp, .int .i64 sr, .slice av nv kv] #[.int .i64 cc, .int .i64 cq, .string cx, .int .i64 cr, .slice au nu ku, .int .i64 ce] #[.int .i64 dc, .int .i64 dq, .string dx, .int .i64 dr, .slice ax nx kx, .int .i64 de] s3 s4 s5 s6 wx)
  case first =>
    have hS0 : W0.drew.cell? ⟨w.heap.size, 0, none⟩ = some (.slice a0 n0 k0) ∧ W0.drew.cell? ⟨w.heap.size, 1, none⟩ = some (.slice a1 n1 k1) ∧ W0.drew.cell? ⟨w.heap.size, 2, none⟩ = some (.slice a2 n2 k2) ∧ W0.drew.cell? ⟨w.heap.size, 3, none⟩ = some (.slice a3 n3 k3) ∧ W0.drew.cell? ⟨w.heap.size, 4, none⟩ = some (.int .i64 sp) ∧ W0.drew.cell? ⟨w.heap.size, 5, none⟩ = some (.int .i64 sr) ∧ W0.drew.cell? ⟨w.heap.size, 6, none⟩ = some (.slice av nv kv) ∧ W0.drew.cell? ⟨w.heap.size, 7, none⟩ = some (.int .i64 cc) ∧ W0.drew.cell? ⟨w.heap.size, 8, none⟩ = some (.int .i64 cq) ∧ W0.drew.cell? ⟨w.heap.size, 9, none⟩ = some (.string cx) ∧ W0.drew.cell? ⟨w.heap.size, 10, none⟩ = some (.int .i64 cr) ∧ W0.drew.cell? ⟨w.heap.size, 11, none⟩ = some (.slice au nu ku) ∧ W0.drew.cell? ⟨w.heap.size, 12, none⟩ = some (.int .i64 ce) ∧ W0.drew.cell? ⟨w.heap.size, 13, none⟩ = some (.int .i64 dc) ∧ W0.drew.cell? ⟨w.heap.size, 14, none⟩ = some (.int .i64 dq) ∧ W0.drew.cell? ⟨w.heap.size, 15, none⟩ = some (.string dx) ∧ W0.drew.cell? ⟨w.heap.size, 16, none⟩ = some (.int .i64 dr) ∧ W0.drew.cell? ⟨w.heap.size, 17, none⟩ = some (.slice ax nx kx) ∧ W0.drew.cell? ⟨w.heap.size, 18, none⟩ = some (.int .i64 de) ∧ Below W0.heap.size W0 W0.drew := HSD.out
    go_region_held_law (fun Wz => Wz.cell? ⟨w.heap.size, 0, none⟩ = some (.slice a0 n0 k0) ∧ Wz.cell? ⟨w.heap.size, 1, none⟩ = some (.slice a1 n1 k1) ∧ Wz.cell? ⟨w.heap.size, 2, none⟩ = some (.slice a2 n2 k2) ∧ Wz.cell? ⟨w.heap.size, 3, none⟩ = some (.slice a3 n3 k3) ∧ Wz.cell? ⟨w.heap.size, 4, none⟩ = some (.int .i64 sp) ∧ Wz.cell? ⟨w.heap.size, 5, none⟩ = some (.int .i64 sr) ∧ Wz.cell? ⟨w.heap.size, 6, none⟩ = some (.slice av nv kv) ∧ Wz.cell? ⟨w.heap.size, 7, none⟩ = some (.int .i64 cc) ∧ Wz.cell? ⟨w.heap.size, 8, none⟩ = some (.int .i64 cq) ∧ Wz.cell? ⟨w.heap.size, 9, none⟩ = some (.string cx) ∧ Wz.cell? ⟨w.heap.size, 10, none⟩ = some (.int .i64 cr) ∧ Wz.cell? ⟨w.heap.size, 11, none⟩ = some (.slice au nu ku) ∧ Wz.cell? ⟨w.heap.size, 12, none⟩ = some (.int .i64 ce) ∧ Wz.cell? ⟨w.heap.size, 13, none⟩ = some (.int .i64 dc) ∧ Wz.cell? ⟨w.heap.size, 14, none⟩ = some (.int .i64 dq) ∧ Wz.cell? ⟨w.heap.size, 15, none⟩ = some (.string dx) ∧ Wz.cell? ⟨w.heap.size, 16, none⟩ = some (.int .i64 dr) ∧ Wz.cell? ⟨w.heap.size, 17, none⟩ = some (.slice ax nx kx) ∧ Wz.cell? ⟨w.heap.size, 18, none⟩ = some (.int .i64 de) ∧ Below W0.heap.size W0 Wz) (first | exact hS0 | exact HKP.out _ _ (be4 _ _ _ _ _) HSZ.out | exact HKP.out _ _ (be3 _ _ _ _) HSZ.out | exact HKP.out _ _ (be2 _ _ _) HSZ.out | exact HKP.out _ _ (be1 _ _) HSZ.out | exact HKP.out _ _ (below_alloc _ _) (by assumption) | assumption) (fail)
    all_goals
      clear hS0
      go_wp2_with fail
      go_meet
      exact ⟨_, _, _, _, rfl, rfl, rfl, rfl, ⟨by omega, by omega, by omega, by omega, by omega, by omega⟩, ⟨by omega, by omega, by omega, by omega⟩, be4 _ _ _ _ _, ⟨(by first | exact (al4_at _ _ _ _ _).1 | exact (al4_at _ _ _ _ _).2.1 | exact (al4_at _ _ _ _ _).2.2.1 | exact (al4_at _ _ _ _ _).2.2.2), (by first | exact (al4_at _ _ _ _ _).1 | exact (al4_at _ _ _ _ _).2.1 | exact (al4_at _ _ _ _ _).2.2.1 | exact (al4_at _ _ _ _ _).2.2.2), (by first | exact (al4_at _ _ _ _ _).1 | exact (al4_at _ _ _ _ _).2.1 | exact (al4_at _ _ _ _ _).2.2.1 | exact (al4_at _ _ _ _ _).2.2.2), (by first | exact (al4_at _ _ _ _ _).1 | exact (al4_at _ _ _ _ _).2.1 | exact (al4_at _ _ _ _ _).2.2.1 | exact (al4_at _ _ _ _ _).2.2.2)⟩⟩
  case rest =>
    obtain ⟨W6, rfl⟩ : ∃ W : World, W = wc := ⟨_, rfl⟩
    obtain ⟨g3, g4, g5, g6, rfl, rfl, rfl, rfl, hdist, hlo, hbw, hq⟩ := (show Al W0 #[.slice a0 n0 k0, .slice a1 n1 k1, .slice a2 n2 k2, .slice a3 n3 k3] #[.int .i64 sp, .int .i64 sr, .slice av nv kv] #[.int .i64 cc, .int .i64 cq, .string cx, .int .i64 cr, .slice au nu ku, .int .i64 ce] #[.int .i64 dc, .int .i64 dq, .string dx, .int .i64 dr, .slice ax nx kx, .int .i64 de] _ _ _ _ _ from hcut)
    have HQ6 := Lib.hid hq
    have HDI := Lib.hid hdist
    have HLO := Lib.hid hlo
    have HB6 := Lib.hid (HB0.out.trans (hbw.mono HB0.out.size))
    have HW0 := Lib.hid HB0.out.size
    clear hcut hq hdist hlo hbw HKP HSD HSZ
    have t0 := (blk HQ6.out.b3 (i := 0) rfl).1
    have t1 := (blk HQ6.out.b3 (i := 1) rfl).1
    have t2 := (blk HQ6.out.b3 (i := 2) rfl).1
    have t3 := (blk HQ6.out.b3 (i := 3) rfl).1
    have s0 := (blk HQ6.out.b4 (i := 0) rfl).1
    have s1 := (blk HQ6.out.b4 (i := 1) rfl).1
    have s2 := (blk HQ6.out.b4 (i := 2) rfl).1
    have HL6 := Lib.hid (HLR.out _ HB6.out)
    go_wp2_with fail
    refine HL6.out.mono ?_
    rintro _ w1 ⟨rfl, hb1⟩
    have HQ1 := Lib.hid (HQ6.out.below hb1)
    have HB1 := Lib.hid (HB6.out.trans (hb1.mono HB6.out.size))
    have HA1 := Lib.hid (HAW.out w1 HB1.out)
    clear hb1 HL6 t0 t1 t2 t3 s0 s1 s2
    cases B with
    | false =>
      go_wp2_with fail
      refine HA1.out.mono ?_
      rintro _ w2 ⟨rfl, hb2⟩
      have HB2 := Lib.hid (HB1.out.trans (hb2.mono HB1.out.size))
      clear hb2
      go_wp2_with fail
      go_ret
      exact ⟨rfl, HB2.out⟩
    | true =>
      have HCH := Lib.hid (show chk5 t = (0, 0, 0, 0) from of_decide_eq_true HBB.out)
      go_wp2_with fail
      refine HA1.out.mono ?_
      rintro _ w2 ⟨rfl, hb2⟩
      have HQ2 := Lib.hid (HQ1.out.below hb2)
      have HB2 := Lib.hid (HB1.out.trans (hb2.mono HB1.out.size))
      have HR2 := Lib.hid (HRR.out w2 HB2.out)
      have t0 := (blk HQ2.out.b3 (i := 0) rfl).1
      have t1 := (blk HQ2.out.b3 (i := 1) rfl).1
      have t2 := (blk HQ2.out.b3 (i := 2) rfl).1
      have t3 := (blk HQ2.out.b3 (i := 3) rfl).1
      have s0 := (blk HQ2.out.b4 (i := 0) rfl).1
      have s1 := (blk HQ2.out.b4 (i := 1) rfl).1
      have s2 := (blk HQ2.out.b4 (i := 2) rfl).1
      clear hb2 HA1
      go_wp2_with fail
      refine HR2.out.mono ?_
      rintro _ w3 ⟨rfl, hb3⟩
      have HQ3 := Lib.hid (HQ2.out.below hb3)
      have HB3 := Lib.hid (HB2.out.trans (hb3.mono HB2.out.size))
      clear hb3 HR2 t0 t1 t2 t3 s0 s1 s2
      cases St with
      | false =>
        have HA3 := Lib.hid (HAW.out w3 HB3.out)
        go_wp2_with fail
        refine HA3.out.mono ?_
        rintro _ w4 ⟨rfl, hb4⟩
        have HB4 := Lib.hid (HB3.out.trans (hb4.mono HB3.out.size))
        clear hb4
        go_wp2_with fail
        go_ret
        exact ⟨rfl, HB4.out⟩
      | true =>
        obtain ⟨n34, n35, n36, n45, n46, n56⟩ := HDI.out
        obtain ⟨l3, l4, l5, l6⟩ := HLO.out
        have hw0 := HW0.out
        have p5 := (blk HQ3.out.b5 (i := 5) rfl).1
        have f5 := (blk HQ3.out.b5 (i := 5) rfl).2
        obtain ⟨W4, hW4⟩ : ∃ W4, w3.setCell ⟨g5, 5, none⟩ (.int .i64 (-1)) = W4 := ⟨_, rfl⟩
        have hq4 : Q4 g3 g4 g5 g6 #[.slice a0 n0 k0, .slice a1 n1 k1, .slice a2 n2 k2, .slice a3 n3 k3] #[.int .i64 sp, .int .i64 sr, .slice av nv kv] #[.int .i64 cc, .int .i64 cq, .string cx, .int .i64 cr, .slice au nu ku, .int .i64 (-1)] #[.int .i64 dc, .int .i64 dq, .string dx, .int .i64 dr, .slice ax nx kx, .int .i64 de] W4 := by rw [← hW4]; exact HQ3.out.set5 n35 n45 (Ne.symm n56) 5 _
        have HQ4 := Lib.hid hq4
        have HB4 := Lib.hid (show Below w.heap.size w W4 by rw [← hW4]; exact HB3.out.setCell (p := ⟨g5, 5, none⟩) (by show w.heap.size ≤ g5; omega) _)
        have HD4 := Lib.hid (HD1.out W4 HB4.out)
        have t0 := (blk HQ4.out.b3 (i := 0) rfl).1
        have t1 := (blk HQ4.out.b3 (i := 1) rfl).1
        have t2 := (blk HQ4.out.b3 (i := 2) rfl).1
        have t3 := (blk HQ4.out.b3 (i := 3) rfl).1
        have s0 := (blk HQ4.out.b4 (i := 0) rfl).1
        have s1 := (blk HQ4.out.b4 (i := 1) rfl).1
        have s2 := (blk HQ4.out.b4 (i := 2) rfl).1
        have m0 := (blk HQ4.out.b5 (i := 0) rfl).1
        have m1 := (blk HQ4.out.b5 (i := 1) rfl).1
        have m2 := (blk HQ4.out.b5 (i := 2) rfl).1
        have m3 := (blk HQ4.out.b5 (i := 3) rfl).1
        have m4 := (blk HQ4.out.b5 (i := 4) rfl).1
        have m5 := (blk HQ4.out.b5 (i := 5) rfl).1
        clear n34 n35 n36 n45 n46 n56 l3 l4 l5 l6 hw0 hq4 HD1
        go_wp2_with fail
        refine HD4.out.mono ?_
        rintro _ w5 ⟨va, hza, hva, hb5⟩
        obtain ⟨xc, hxc⟩ : ∃ y, (decide7 t s ⟨c.client, c.seq, c.stream, c.rule, c.args, -1⟩).2 = y := ⟨_, rfl⟩
        rw [hxc] at hza
        subst hza
        have HXC := Lib.hid hxc
        have HVA := Lib.hid hva
        have HQ5 := Lib.hid (HQ4.out.below hb5)
        have HB5 := Lib.hid (HB4.out.trans (hb5.mono HB4.out.size))
        have HD5 := Lib.hid (HD2.out w5 HB5.out)
        clear hb5 hva hxc p5 f5 hW4 HD4 HD2 t0 t1 t2 t3 s0 s1 s2 m0 m1 m2 m3 m4 m5
        have t0 := (blk HQ5.out.b3 (i := 0) rfl).1
        have t1 := (blk HQ5.out.b3 (i := 1) rfl).1
        have t2 := (blk HQ5.out.b3 (i := 2) rfl).1
        have t3 := (blk HQ5.out.b3 (i := 3) rfl).1
        have s0 := (blk HQ5.out.b4 (i := 0) rfl).1
        have s1 := (blk HQ5.out.b4 (i := 1) rfl).1
        have s2 := (blk HQ5.out.b4 (i := 2) rfl).1
        have o0 := (blk HQ5.out.b6 (i := 0) rfl).1
        have o1 := (blk HQ5.out.b6 (i := 1) rfl).1
        have o2 := (blk HQ5.out.b6 (i := 2) rfl).1
        have o3 := (blk HQ5.out.b6 (i := 3) rfl).1
        have o4 := (blk HQ5.out.b6 (i := 4) rfl).1
        have o5 := (blk HQ5.out.b6 (i := 5) rfl).1
        go_wp2_with fail
        refine HD5.out.mono ?_
        rintro _ w6 ⟨vo, rfl, -, hb6⟩
        have HQ7 := Lib.hid (HQ5.out.below hb6)
        have HC56 := Lib.hid hb6
        have HB7 := Lib.hid (HB5.out.trans (hb6.mono HB5.out.size))
        obtain ⟨n34, n35, n36, n45, n46, n56⟩ := HDI.out
        obtain ⟨l3, l4, l5, l6⟩ := HLO.out
        have hw0 := HW0.out
        clear hb6 HD5 t0 t1 t2 t3 s0 s1 s2 o0 o1 o2 o3 o4 o5
        obtain ⟨g9, hg9⟩ : ∃ g, w6.heap.size = g := ⟨_, rfl⟩
        have m3 : g3 ≠ g9 := by have := (Array.getElem?_eq_some_iff.1 HQ7.out.b3).1; omega
        have m4 : g4 ≠ g9 := by have := (Array.getElem?_eq_some_iff.1 HQ7.out.b4).1; omega
        have m5 : g5 ≠ g9 := by have := (Array.getElem?_eq_some_iff.1 HQ7.out.b5).1; omega
        have m6 : g6 ≠ g9 := by have := (Array.getElem?_eq_some_iff.1 HQ7.out.b6).1; omega
        have hg9w : w.heap.size ≤ g9 := by rw [← hg9]; exact HB7.out.size
        have hg95 : w5.heap.size ≤ g9 := by rw [← hg9]; exact HC56.out.size
        obtain ⟨X0, hX0⟩ : ∃ X0, w6.alloc (.cells #[.int .i64 cc, .int .i64 cq, .string cx, .int .i64 cr, .slice au nu ku, .int .i64 (-1)] 43) = X0 := ⟨_, rfl⟩
        have hB0' : Below w6.heap.size w6 X0 := by rw [← hX0]; exact below_alloc _ _
        have x0 : X0.heap[g9]? = some (.cells #[.int .i64 cc, .int .i64 cq, .string cx, .int .i64 cr, .slice au nu ku, .int .i64 (-1)] 43 (0, 0)) := by rw [← hX0, ← hg9]; exact heap_alloc_at _ _
        have y0 := HQ7.out.below hB0'
        have z0 := HB7.out.trans (hB0'.mono HB7.out.size)
        obtain ⟨X1, hX1⟩ : ∃ X1, X0.setCell ⟨g9, 0, none⟩ (.int .i64 dc) = X1 := ⟨_, rfl⟩
        have x1 : X1.heap[g9]? = some (.cells #[.int .i64 dc, .int .i64 cq, .string cx, .int .i64 cr, .slice au nu ku, .int .i64 (-1)] 43 (0, 0)) := by rw [← hX1]; exact heap_setCell_same _ g9 0 _ _ _ x0
        have y1 := y0.off m3 m4 m5 m6 0 (.int .i64 dc)
        rw [hX1] at y1
        have z1 : Below w.heap.size w X1 := by rw [← hX1]; exact z0.setCell (p := ⟨g9, 0, none⟩) hg9w _
        obtain ⟨X2, hX2⟩ : ∃ X2, X1.setCell ⟨g9, 1, none⟩ (.int .i64 dq) = X2 := ⟨_, rfl⟩
        have x2 : X2.heap[g9]? = some (.cells #[.int .i64 dc, .int .i64 dq, .string cx, .int .i64 cr, .slice au nu ku, .int .i64 (-1)] 43 (0, 0)) := by rw [← hX2]; exact heap_setCell_same _ g9 1 _ _ _ x1
        have y2 := y1.off m3 m4 m5 m6 1 (.int .i64 dq)
        rw [hX2] at y2
        have z2 : Below w.heap.size w X2 := by rw [← hX2]; exact z1.setCell (p := ⟨g9, 1, none⟩) hg9w _
        obtain ⟨X3, hX3⟩ : ∃ X3, X2.setCell ⟨g9, 2, none⟩ (.string dx) = X3 := ⟨_, rfl⟩
        have x3 : X3.heap[g9]? = some (.cells #[.int .i64 dc, .int .i64 dq, .string dx, .int .i64 cr, .slice au nu ku, .int .i64 (-1)] 43 (0, 0)) := by rw [← hX3]; exact heap_setCell_same _ g9 2 _ _ _ x2
        have y3 := y2.off m3 m4 m5 m6 2 (.string dx)
        rw [hX3] at y3
        have z3 : Below w.heap.size w X3 := by rw [← hX3]; exact z2.setCell (p := ⟨g9, 2, none⟩) hg9w _
        obtain ⟨X4, hX4⟩ : ∃ X4, X3.setCell ⟨g9, 5, none⟩ (.int .i64 sr) = X4 := ⟨_, rfl⟩
        have x4 : X4.heap[g9]? = some (.cells #[.int .i64 dc, .int .i64 dq, .string dx, .int .i64 cr, .slice au nu ku, .int .i64 sr] 43 (0, 0)) := by rw [← hX4]; exact heap_setCell_same _ g9 5 _ _ _ x3
        have y4 := y3.off m3 m4 m5 m6 5 (.int .i64 sr)
        rw [hX4] at y4
        have z4 : Below w.heap.size w X4 := by rw [← hX4]; exact z3.setCell (p := ⟨g9, 5, none⟩) hg9w _
        have o0 := (blk y0.b6 (i := 0) rfl).1
        have o1 := (blk y1.b6 (i := 1) rfl).1
        have o2 := (blk y2.b6 (i := 2) rfl).1
        have s31 := (blk y3.b4 (i := 1) rfl).1
        have a00 := blk x0 (i := 0) rfl
        have a11 := blk x1 (i := 1) rfl
        have a22 := blk x2 (i := 2) rfl
        have a35 := blk x3 (i := 5) rfl
        obtain ⟨a00, b00⟩ := a00
        obtain ⟨a11, b11⟩ := a11
        obtain ⟨a22, b22⟩ := a22
        obtain ⟨a35, b35⟩ := a35
        have u0 := HC56.out.trans (hB0'.mono HC56.out.size)
        have u1 := (((u0.setCell (p := ⟨g9, 0, none⟩) hg95 (.int .i64 dc)).setCell (p := ⟨g9, 1, none⟩) hg95 (.int .i64 dq)).setCell (p := ⟨g9, 2, none⟩) hg95 (.string dx)).setCell (p := ⟨g9, 5, none⟩) hg95 (.int .i64 sr)
        rw [hX1, hX2, hX3, hX4] at u1
        have HC58 := Lib.hid u1
        have HG95 := Lib.hid hg95
        have HGX := Lib.hid (show g9 < X4.heap.size from (Array.getElem?_eq_some_iff.1 x4).1)
        have HX4 := Lib.hid x4
        have HY4 := Lib.hid y4
        have HZ4 := Lib.hid z4
        have HM := Lib.hid (show g3 ≠ g9 ∧ g4 ≠ g9 ∧ g5 ≠ g9 ∧ g6 ≠ g9 ∧ w.heap.size ≤ g9 from ⟨m3, m4, m5, m6, hg9w⟩)
        have HD8 := Lib.hid (HD3.out sr HIV.out X4 z4)
        have t0 := (blk HY4.out.b3 (i := 0) rfl).1
        have t1 := (blk HY4.out.b3 (i := 1) rfl).1
        have t2 := (blk HY4.out.b3 (i := 2) rfl).1
        have t3 := (blk HY4.out.b3 (i := 3) rfl).1
        have s0 := (blk HY4.out.b4 (i := 0) rfl).1
        have s1 := (blk HY4.out.b4 (i := 1) rfl).1
        have s2 := (blk HY4.out.b4 (i := 2) rfl).1
        have d0 := (blk HX4.out (i := 0) rfl).1
        have d1 := (blk HX4.out (i := 1) rfl).1
        have d2 := (blk HX4.out (i := 2) rfl).1
        have d3 := (blk HX4.out (i := 3) rfl).1
        have d4 := (blk HX4.out (i := 4) rfl).1
        have d5 := (blk HX4.out (i := 5) rfl).1
        have p0 := (blk HQ7.out.b5 (i := 0) rfl).1
        have p1 := (blk HQ7.out.b5 (i := 1) rfl).1
        have p2 := (blk HQ7.out.b5 (i := 2) rfl).1
        have p3 := (blk HQ7.out.b5 (i := 3) rfl).1
        have p4 := (blk HQ7.out.b5 (i := 4) rfl).1
        have p5 := (blk HQ7.out.b5 (i := 5) rfl).1
        clear n34 n35 n36 n45 n46 n56 l3 l4 l5 l6 hw0 m3 m4 m5 m6 hg9w hg95 u0 u1 hB0' x0 y0 z0 x1 y1 z1 x2 y2 z2 x3 y3 z3 x4 y4 z4
        go_wp2_with fail
        refine HD8.out.mono ?_
        rintro _ w8 ⟨vb, hzb, hvb, hb8⟩
        have hal := dec_alone (t := t) (s := s) ⟨c.client, c.seq, c.stream, c.rule, c.args, -1⟩ ⟨d.client, d.seq, d.stream, c.rule, c.args, sr⟩ rfl rfl (by show (-1 : Int) < 0; decide) HSR.out.symm
        rw [hal, HXC.out] at hzb
        rw [hal] at hvb
        subst hzb
        have HVB := Lib.hid hvb
        have HQ8 := Lib.hid (HY4.out.below hb8)
        have HX8 := Lib.hid (keep_blk HX4.out hb8)
        have HB8 := Lib.hid (HZ4.out.trans (hb8.mono HZ4.out.size))
        have HC88 := Lib.hid (HC58.out.trans (hb8.mono HC58.out.size))
        clear hal hvb hb8 t0 t1 t2 t3 s0 s1 s2 d0 d1 d2 d3 d4 d5
        obtain ⟨hf, hhf⟩ : ∃ y, Int.tdiv sr 2 = y := ⟨_, rfl⟩
        have hst := stands_len HSS.out
        rw [HSR.out] at hst
        have hfe : hf = sr / 2 := by rw [← hhf]; exact Int.tdiv_eq_ediv_of_nonneg hst.2.2.2.1
        have hi : I64 hf := by unfold I64; omega
        have hwf : IntKind.i64.wrap hf = hf := IntWalk.i64_in _ (by unfold I64 at hi; omega)
        obtain ⟨m3, m4, m5, m6, hg9w⟩ := HM.out
        have s81 := (blk HQ8.out.b4 (i := 1) rfl).1
        obtain ⟨a85, b85⟩ := blk HX8.out (i := 5) rfl
        obtain ⟨X9, hX9⟩ : ∃ X9, w8.setCell ⟨g9, 5, none⟩ (.int .i64 hf) = X9 := ⟨_, rfl⟩
        have x9 : X9.heap[g9]? = some (.cells #[.int .i64 dc, .int .i64 dq, .string dx, .int .i64 cr, .slice au nu ku, .int .i64 hf] 43 (0, 0)) := by rw [← hX9]; exact heap_setCell_same _ g9 5 _ _ _ HX8.out
        have y9 := HQ8.out.off m3 m4 m5 m6 5 (.int .i64 hf)
        rw [hX9] at y9
        have z9 : Below w.heap.size w X9 := by rw [← hX9]; exact HB8.out.setCell (p := ⟨g9, 5, none⟩) hg9w _
        have HX9 := Lib.hid x9
        have HY9 := Lib.hid y9
        have HZ9 := Lib.hid z9
        have HHF := Lib.hid (And.intro hfe (And.intro hst.2.2.2.1 (HSR.out)))
        have HD9 := Lib.hid (HD3.out hf hi X9 z9)
        have u9 := HC88.out.setCell (p := ⟨g9, 5, none⟩) HG95.out (.int .i64 hf)
        rw [hX9] at u9
        have HC99 := Lib.hid u9
        have HO9 := Lib.hid (fun (k : Nat) (o : Obj) (hk : X4.heap.size ≤ k) (ho : w8.heap[k]? = some o) => (show X9.heap[k]? = some o by
          rw [← hX9, heap_setCell_other _ ⟨g9, 5, none⟩ k _ (by show k ≠ g9; have := HGX.out; omega)]; exact ho))
        have t0 := (blk HY9.out.b3 (i := 0) rfl).1
        have t1 := (blk HY9.out.b3 (i := 1) rfl).1
        have t2 := (blk HY9.out.b3 (i := 2) rfl).1
        have t3 := (blk HY9.out.b3 (i := 3) rfl).1
        have s0 := (blk HY9.out.b4 (i := 0) rfl).1
        have s1 := (blk HY9.out.b4 (i := 1) rfl).1
        have s2 := (blk HY9.out.b4 (i := 2) rfl).1
        have d0 := (blk HX9.out (i := 0) rfl).1
        have d1 := (blk HX9.out (i := 1) rfl).1
        have d2 := (blk HX9.out (i := 2) rfl).1
        have d3 := (blk HX9.out (i := 3) rfl).1
        have d4 := (blk HX9.out (i := 4) rfl).1
        have d5 := (blk HX9.out (i := 5) rfl).1
        clear hst hfe hi m3 m4 m5 m6 hg9w x9 y9 z9 u9
        go_wp2_with fail
        refine HD9.out.mono ?_
        rintro _ w10 ⟨vz, hzz, -, hb10⟩
        obtain ⟨zc, hzc⟩ : ∃ y, (decide7 t s ⟨d.client, d.seq, d.stream, c.rule, c.args, hf⟩).2 = y := ⟨_, rfl⟩
        rw [hzc] at hzz
        subst hzz
        have HZC := Lib.hid hzc
        have HB10 := Lib.hid (HZ9.out.trans (hb10.mono HZ9.out.size))
        have s10 := (blk (HY9.out.below hb10).b4 (i := 1) rfl).1
        have hvr : 0 < sr → xc ≠ 1 → xc ≠ 2 → xc ≠ 3 → zc = 4 := fun q0 q1 q2 q3 => by
          rw [← HZC.out]
          exact dec_version ⟨c.client, c.seq, c.stream, c.rule, c.args, -1⟩ _ HCH.out rfl rfl ⟨by show 0 ≤ hf; have := HHF.out.1; have := HHF.out.2.1; omega, by show hf ≠ s.ver; have := HHF.out.1; rw [HHF.out.2.2]; omega⟩ (by rw [HXC.out]; exact q1) (by rw [HXC.out]; exact q2) (by rw [HXC.out]; exact q3)
        have hsm := dec_small (t := t) (s := s) (c := ⟨c.client, c.seq, c.stream, c.rule, c.args, -1⟩) HCH.out
        have HE := Lib.hid (sameE_any _ va vb w10 (EvsIs.below HVA.out.1 (HC99.out.trans (hb10.mono HC99.out.size))) (HVB.out.2 w10 fun k o hk ho => keep_blk (HO9.out k o hk ho) hb10) hsm.1 hsm.2)
        clear hb10 hzc hsm hhf hwf hX9 s81 a85 b85 t0 t1 t2 t3 s0 s1 s2 d0 d1 d2 d3 d4 d5
        by_cases v0 : 0 < sr
        rotate_left
        · have bv : decide (0 < sr) = false := decide_eq_false v0
          clear hvr v0
          go_wp2_with fail
          refine HE.out.mono ?_
          rintro _ w11 ⟨rfl, hb11⟩
          have HB11 := Lib.hid (HB10.out.trans (hb11.mono HB10.out.size))
          clear hb11
          go_wp2_with fail
          go_ret
          exact ⟨rfl, HB11.out⟩
        have bv : decide (0 < sr) = true := decide_eq_true v0
        by_cases v1 : xc = 1
        · subst v1
          clear hvr
          go_wp2_with fail
          refine HE.out.mono ?_
          rintro _ w11 ⟨rfl, hb11⟩
          have HB11 := Lib.hid (HB10.out.trans (hb11.mono HB10.out.size))
          clear hb11
          go_wp2_with fail
          go_ret
          exact ⟨rfl, HB11.out⟩
        have b1 : (xc == 1) = false := beq_eq_false_iff_ne.2 v1
        have p1' : (xc != 1) = true := by simp [v1]
        have p1'' : decide (xc = 1) = false := decide_eq_false v1
        by_cases v2 : xc = 2
        · subst v2
          clear hvr
          go_wp2_with fail
          refine HE.out.mono ?_
          rintro _ w11 ⟨rfl, hb11⟩
          have HB11 := Lib.hid (HB10.out.trans (hb11.mono HB10.out.size))
          clear hb11
          go_wp2_with fail
          go_ret
          exact ⟨rfl, HB11.out⟩
        have b2 : (xc == 2) = false := beq_eq_false_iff_ne.2 v2
        have p2' : (xc != 2) = true := by simp [v2]
        have p2'' : decide (xc = 2) = false := decide_eq_false v2
        by_cases v3 : xc = 3
        · subst v3
          clear hvr
          go_wp2_with fail
          refine HE.out.mono ?_
          rintro _ w11 ⟨rfl, hb11⟩
          have HB11 := Lib.hid (HB10.out.trans (hb11.mono HB10.out.size))
          clear hb11
          go_wp2_with fail
          go_ret
          exact ⟨rfl, HB11.out⟩
        have b3 : (xc == 3) = false := beq_eq_false_iff_ne.2 v3
        have p3' : (xc != 3) = true := by simp [v3]
        have p3'' : decide (xc = 3) = false := decide_eq_false v3
        have hz4 := hvr v0 v1 v2 v3
        subst hz4
        clear hvr v0
        go_wp2_with fail
        refine HE.out.mono ?_
        rintro _ w11 ⟨rfl, hb11⟩
        have HB11 := Lib.hid (HB10.out.trans (hb11.mono HB10.out.size))
        clear hb11
        go_wp2_with fail
        go_ret
        exact ⟨rfl, HB11.out⟩

/-- WHAT THE WALK GIVES, FOR EVERY ARGUMENT AND EVERY WORLD THAT HOLDS WHAT THE ROW LISTS. -/
theorem contract (H : Type) (enc : TypeId × Value → H) (W : World) (base : Nat) (args : Array Value) (ds gs : List (DataW H)) (before : List MemPlace)
    (hval0 : ∀ (j : Nat) t v, Tryz.f9.params[j]? = some t → args[j]? = some v → Value.okWide Tryz.prog W .any base t v)
    (hW : DataW.Whole enc Tryz.prog Tryz.f9.params.toList Rows.decideAloneSpec.vars false W args.toList ds gs before) (hL : laidMetH Tryz.prog I.laid1 W) :
    Calls Tryz.prog 9 args W fun e W' => ∃ v, e = .returned v ∧ Rows.decideAloneSpec.post enc Tryz.prog Tryz.f9 false true false false W args v W' := by
  have hval : ∀ (j : Nat) t v, Tryz.f9.params[j]? = some t → args[j]? = some v → Value.okWide Tryz.prog W .any base t v := hval0
  have hW' := hW
  obtain ⟨p, q, hA0, hV, rfl, hfz, hnd⟩ := hW
  have hA : DataW.TrodAll enc Tryz.prog W 0 (fun _ => true) true Tryz.f9.params.toList args.toList ds p := hA0
  rw [Tryz.params9] at hA hval
  obtain ⟨v0, vs0, d0, ds0, p0, q0, hargs, rfl, rfl, h0, r0⟩ := trodAll_cons hA
  obtain ⟨rfl, rfl, rfl⟩ := trodAll_nil r0
  obtain rfl : args = #[v0] := by cases args; simp_all
  obtain ⟨c0, c1, c2, c3, t, s, v, c, u, d, x, rfl, ht, hwf, hs, hsw, hc, hcw, hd, hdw⟩ := four7_arg (hval 0 60 v0 rfl rfl) h0
  refine (walk t c0 c1 c2 c3 s v c u d x W ht hwf hs hsw hc hcw hd hdw (I.glob_of hL)).mono fun e W' ⟨he, hb⟩ => ?_
  subst he
  exact ⟨_, rfl, post_law hW' hb laidOut rfl rfl rfl Tryz.underlying4 (by rw [Tryz.params9]; decide +kernel)⟩

theorem reads (os : Os) {H : Type} (enc : TypeId × Value → H) : ∃ places, DataW.whole enc Tryz.prog ((World.doorLaid Tryz.prog 77 os).forCall (fun _ _ => 0) ⟨#[], #[.agg #[.slice none 0 0, .slice none 0 0, .slice none 0 0, .slice none 0 0, .int .i64 0, .int .i64 0, .slice none 0 0, .int .i64 0, .int .i64 0, .string ⟨#[]⟩, .int .i64 0, .slice none 0 0, .int .i64 0, .int .i64 0, .int .i64 0, .string ⟨#[]⟩, .int .i64 0, .slice none 0 0, .int .i64 0]], []⟩).memory Tryz.f9.params.toList Rows.decideAloneSpec.vars false (#[.agg #[.slice none 0 0, .slice none 0 0, .slice none 0 0, .slice none 0 0, .int .i64 0, .int .i64 0, .slice none 0 0, .int .i64 0, .int .i64 0, .string ⟨#[]⟩, .int .i64 0, .slice none 0 0, .int .i64 0, .int .i64 0, .int .i64 0, .string ⟨#[]⟩, .int .i64 0, .slice none 0 0, .int .i64 0]] : Array Value).toList 8 = some ([.agg [.agg [.nil, .nil, .nil, .nil], .agg [.lit (.int .i64 0), .lit (.int .i64 0), .nil], .agg [.lit (.int .i64 0), .lit (.int .i64 0), .lit (.string []), .lit (.int .i64 0), .nil, .lit (.int .i64 0)], .agg [.lit (.int .i64 0), .lit (.int .i64 0), .lit (.string []), .lit (.int .i64 0), .nil, .lit (.int .i64 0)]]], [], places) :=
  ⟨[], by kernel_rfl⟩

theorem lifted (os : Os) (started : os.Started) (H : Type) (enc : TypeId × Value → H) (F : Stop.Interp) :
    ReturnsInHanded {} Tryz.checked os 9 .any ((OpenSpec.ofChange Rows.decideAloneSpec).preRow enc Tryz.prog Tryz.f9 Rows.decideAloneRow.domain false Rows.decideAloneRow.laid) (((OpenSpec.ofChange Rows.decideAloneSpec).at F).post enc Tryz.prog Tryz.f9 false true false false) := by
  obtain ⟨places, hx⟩ := reads os enc
  refine returnsInHanded_of_row (C := Tryz.checked) (s := OpenSpec.ofChange Rows.decideAloneSpec) own started (by kernel_rfl) Tryz.func9
    (witness_row_atRef (enc := enc) (C := Tryz.checked) false (World.doorLaid Tryz.prog 77 os) #[.agg #[.slice none 0 0, .slice none 0 0, .slice none 0 0, .slice none 0 0, .int .i64 0, .int .i64 0, .slice none 0 0, .int .i64 0, .int .i64 0, .string ⟨#[]⟩, .int .i64 0, .slice none 0 0, .int .i64 0, .int .i64 0, .int .i64 0, .string ⟨#[]⟩, .int .i64 0, .slice none 0 0, .int .i64 0]] rfl (by kernel_rfl) (by kernel_rfl) (by kernel_rfl)
      (OpenSpec.preRow_of_cond 8 hx (by kernel_rfl) (fun k hk => by cases hk) (by kernel_rfl) (I.laid_met os _))) ?_
  intro W base args ds gs before hval hW _ _ hsz hL _ _
  exact contract H enc W base args ds gs before hval hW hL

theorem said : Rows.DecideAloneSaid :=
  OpenClaim.holds_of_cond 9 Tryz.f9 rfl rfl rfl rfl rfl rfl rfl ⟨rfl, rfl, rfl, rfl, rfl⟩ rfl rfl rfl rfl rfl (by kernel_rfl) Tryz.func9 (by kernel_rfl)
    (of_decide_eq_true (by kernel_rfl)) (by unfold Func.isWrapper; first | (rw [if_pos (by decide +kernel)]; kernel_rfl) | (rw [if_neg (by decide +kernel)]; exact ⟨rfl, rfl⟩))
    (fun os started H enc _ F => by rw [OpenClaim.pre_eq_preRow]; exact lifted os started H enc F)

theorem plain (f : FuncId) (fn : Func) (hf : Tryz.pinned.checked.prog.funcNamed "surmise/surmiselaw07.DecideAlone" = some f) (hfn : Tryz.pinned.checked.prog.funcs[f]? = some fn) :
    true = Tryz.pinned.checked.prog.looks [] ∧ ∀ (j : Nat) t, fn.params[j]? = some t → Tryz.pinned.checked.prog.wantsStandIn t = false := by
  obtain rfl : f = 9 := Option.some.inj ((show Tryz.prog.funcNamed "surmise/surmiselaw07.DecideAlone" = some 9 by kernel_rfl).symm.trans hf) |>.symm
  obtain rfl : fn = Tryz.f9 := (Option.some.inj (Tryz.func9.symm.trans hfn)).symm
  refine ⟨by kernel_rfl, fun j t ht => ?_⟩
  rw [Tryz.params9] at ht
  have hm := Array.mem_of_getElem? ht
  simp only [Array.mem_def, List.mem_cons, List.not_mem_nil, or_false] at hm
  subst hm
  exact (show Tryz.prog.wantsStandIn 60 = false by kernel_rfl)

/-- THE CARD. -/
theorem given : Rows.DecideAloneCardSaid :=
  Claim7.holds_tied_plain_at .later [] _ _ _ _ said (fun _ h => by cases h) (by kernel_rfl) (fun _ h => by cases h) decideAlone_row_tie rfl ⟨rfl, rfl⟩ (by kernel_rfl) rfl plain (by kernel_rfl)
end Go.Proofs.YtkdlmjgdhdmahaaGreatDoor.decideAlone
