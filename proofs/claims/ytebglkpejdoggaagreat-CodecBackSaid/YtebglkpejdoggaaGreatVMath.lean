/-
  Layer 10, the document's answers: the same commands, records, events, states, items and verdicts are told to be the same.
  Plain mathematics of layer 1 (varint): no program is named here.
-/
import Derived.Test.YtebglkpejdoggaaGreatP10RefF
import Derived.BigQuiet
import Derived.Lib.Varint
import Derived.Lib.Zigzag
import Derived.Laws.Concat
import Derived.Lib.Strings
namespace Go.Proofs.YtebglkpejdoggaaGreat.C10
open Go Go.RowKit Go.Proofs Go.Proofs.YtebglkpejdoggaaGreat.B Go.Proofs.YtebglkpejdoggaaGreat.K Go.Proofs.YtebglkpejdoggaaGreat.P8
set_option linter.unusedVariables false
set_option maxRecDepth 100000

set_option maxHeartbeats 1000000 in
theorem sameSt_any (L : Low) (c : St) (v v' : Value) (w : World) (h : SlN w v c.vars) (h' : SlN w v' c.vars) (hl : c.vars.length ≤ 4611686018427387904) :
    Calls Tryz.prog 61 #[.agg #[.int .i64 c.pos, .int .i64 c.ver, v], .agg #[.int .i64 c.pos, .int .i64 c.ver, v']] w fun z w' => z = .returned (.bool true) ∧ Below w.heap.size w w' := by
  obtain ⟨n0, n1, ar⟩ := c
  dsimp only at h h' hl ⊢
  have HI := Lib.hid (fun (W : World) (hb : Below w.heap.size w W) => L.ints v v' ar W hl (h.below hb) (h'.below hb))
  obtain ⟨W0, hW0⟩ : ∃ W0, w.alloc (.cells #[.int .i64 n0, .int .i64 n1, v] 71) = W0 := ⟨_, rfl⟩
  obtain ⟨g, hg⟩ : ∃ g, W0.heap.size = g := ⟨_, rfl⟩
  obtain ⟨W1, hW1⟩ : ∃ W1, W0.alloc (.cells #[.int .i64 n0, .int .i64 n1, v'] 71) = W1 := ⟨_, rfl⟩
  have hB0 : Below w.heap.size w W0 := by rw [← hW0]; exact below_alloc _ _
  have hB1 : Below W0.heap.size W0 W1 := by rw [← hW1]; exact below_alloc _ _
  have k0 : W1.cell? ⟨w.heap.size, 0, none⟩ = some (.int .i64 n0) := kept_cell hB1 (by rw [← hW0]; exact alloc_cell w [_, _, _] _ 0 _ rfl)
  have k1 : W1.cell? ⟨w.heap.size, 1, none⟩ = some (.int .i64 n1) := kept_cell hB1 (by rw [← hW0]; exact alloc_cell w [_, _, _] _ 1 _ rfl)
  have k2 : W1.cell? ⟨w.heap.size, 2, none⟩ = some (v) := kept_cell hB1 (by rw [← hW0]; exact alloc_cell w [_, _, _] _ 2 _ rfl)
  have j0 : W1.cell? ⟨g, 0, none⟩ = some (.int .i64 n0) := by rw [← hW1, ← hg]; exact alloc_cell W0 [_, _, _] _ 0 _ rfl
  have j1 : W1.cell? ⟨g, 1, none⟩ = some (.int .i64 n1) := by rw [← hW1, ← hg]; exact alloc_cell W0 [_, _, _] _ 1 _ rfl
  have j2 : W1.cell? ⟨g, 2, none⟩ = some (v') := by rw [← hW1, ← hg]; exact alloc_cell W0 [_, _, _] _ 2 _ rfl
  have hb := hB0.trans (hB1.mono hB0.size)
  have HB := Lib.hid hb
  have HH := Lib.hid (HI.out W1 hb)
  clear hB0 hB1 hb HI h h'
  go_enter Tryz.func61, Tryz.ntmps61
  go_wp2_with fail
  refine HH.out.mono ?_
  rintro _ w2 ⟨rfl, hb2⟩
  have HB2 := Lib.hid (HB.out.trans (hb2.mono HB.out.size))
  clear hb2
  go_wp2_with fail
  go_ret
  exact ⟨rfl, HB2.out⟩

set_option maxHeartbeats 2000000 in
theorem sameCmd_any (L : Low) (c : Cm) (v v' : Value) (w : World) (h : SlN w v c.args) (h' : SlN w v' c.args) (hl : c.args.length ≤ 4611686018427387904) :
    Calls Tryz.prog 19 #[.agg #[.int .i64 c.client, .int .i64 c.seq, .string (str c.stream), .int .i64 c.rule, v, .int .i64 c.expect], .agg #[.int .i64 c.client, .int .i64 c.seq, .string (str c.stream), .int .i64 c.rule, v', .int .i64 c.expect]] w fun z w' => z = .returned (.bool true) ∧ Below w.heap.size w w' := by
  obtain ⟨n0, n1, s, n3, ar, n5⟩ := c
  dsimp only at h h' hl ⊢
  have HI := Lib.hid (fun (W : World) (hb : Below w.heap.size w W) => L.ints v v' ar W hl (h.below hb) (h'.below hb))
  obtain ⟨W0, hW0⟩ : ∃ W0, w.alloc (.cells #[.int .i64 n0, .int .i64 n1, .string (str s), .int .i64 n3, v, .int .i64 n5] 41) = W0 := ⟨_, rfl⟩
  obtain ⟨g, hg⟩ : ∃ g, W0.heap.size = g := ⟨_, rfl⟩
  obtain ⟨W1, hW1⟩ : ∃ W1, W0.alloc (.cells #[.int .i64 n0, .int .i64 n1, .string (str s), .int .i64 n3, v', .int .i64 n5] 41) = W1 := ⟨_, rfl⟩
  have hB0 : Below w.heap.size w W0 := by rw [← hW0]; exact below_alloc _ _
  have hB1 : Below W0.heap.size W0 W1 := by rw [← hW1]; exact below_alloc _ _
  have k0 : W1.cell? ⟨w.heap.size, 0, none⟩ = some (.int .i64 n0) := kept_cell hB1 (by rw [← hW0]; exact alloc_cell w [_, _, _, _, _, _] _ 0 _ rfl)
  have k1 : W1.cell? ⟨w.heap.size, 1, none⟩ = some (.int .i64 n1) := kept_cell hB1 (by rw [← hW0]; exact alloc_cell w [_, _, _, _, _, _] _ 1 _ rfl)
  have k2 : W1.cell? ⟨w.heap.size, 2, none⟩ = some (.string (str s)) := kept_cell hB1 (by rw [← hW0]; exact alloc_cell w [_, _, _, _, _, _] _ 2 _ rfl)
  have k3 : W1.cell? ⟨w.heap.size, 3, none⟩ = some (.int .i64 n3) := kept_cell hB1 (by rw [← hW0]; exact alloc_cell w [_, _, _, _, _, _] _ 3 _ rfl)
  have k4 : W1.cell? ⟨w.heap.size, 4, none⟩ = some (v) := kept_cell hB1 (by rw [← hW0]; exact alloc_cell w [_, _, _, _, _, _] _ 4 _ rfl)
  have k5 : W1.cell? ⟨w.heap.size, 5, none⟩ = some (.int .i64 n5) := kept_cell hB1 (by rw [← hW0]; exact alloc_cell w [_, _, _, _, _, _] _ 5 _ rfl)
  have j0 : W1.cell? ⟨g, 0, none⟩ = some (.int .i64 n0) := by rw [← hW1, ← hg]; exact alloc_cell W0 [_, _, _, _, _, _] _ 0 _ rfl
  have j1 : W1.cell? ⟨g, 1, none⟩ = some (.int .i64 n1) := by rw [← hW1, ← hg]; exact alloc_cell W0 [_, _, _, _, _, _] _ 1 _ rfl
  have j2 : W1.cell? ⟨g, 2, none⟩ = some (.string (str s)) := by rw [← hW1, ← hg]; exact alloc_cell W0 [_, _, _, _, _, _] _ 2 _ rfl
  have j3 : W1.cell? ⟨g, 3, none⟩ = some (.int .i64 n3) := by rw [← hW1, ← hg]; exact alloc_cell W0 [_, _, _, _, _, _] _ 3 _ rfl
  have j4 : W1.cell? ⟨g, 4, none⟩ = some (v') := by rw [← hW1, ← hg]; exact alloc_cell W0 [_, _, _, _, _, _] _ 4 _ rfl
  have j5 : W1.cell? ⟨g, 5, none⟩ = some (.int .i64 n5) := by rw [← hW1, ← hg]; exact alloc_cell W0 [_, _, _, _, _, _] _ 5 _ rfl
  have hb := hB0.trans (hB1.mono hB0.size)
  have HB := Lib.hid hb
  have HH := Lib.hid (HI.out W1 hb)
  clear hB0 hB1 hb HI h h'
  go_enter Tryz.func19, Tryz.ntmps19
  go_wp2_with fail
  refine HH.out.mono ?_
  rintro _ w2 ⟨rfl, hb2⟩
  have k5 := kept_cell hb2 k5
  have j5 := kept_cell hb2 j5
  have HB2 := Lib.hid (HB.out.trans (hb2.mono HB.out.size))
  clear hb2
  go_wp2_with fail
  go_ret
  exact ⟨rfl, HB2.out⟩

set_option maxHeartbeats 4000000 in
theorem sameEvs_any (L : Low) (l : List Ev) (v v' : Value) (w : World) (h : EvsIs w v l) (h' : EvsIs w v' l) (hl : l.length ≤ 17592186044416) (hv8 : ∀ e ∈ l, e.vars.length ≤ 4611686018427387904) :
    Calls Tryz.prog 58 #[v, v'] w fun z w' => z = .returned (.bool true) ∧ Below w.heap.size w w' := by
  obtain ⟨a, cap, rfl, hz⟩ := h.open
  obtain ⟨a', cap', rfl, hz'⟩ := h'.open
  have HS := Lib.hid hz
  have HS' := Lib.hid hz'
  have HV := Lib.hid hv8
  obtain ⟨N, hN⟩ : ∃ N, l.length = N := ⟨_, rfl⟩
  rw [hN] at hl ⊢
  have HL := Lib.hid hl
  have HN := Lib.hid hN
  clear hN hl h h' hz hz'
  go_enter Tryz.func58, Tryz.ntmps58
  go_wp2_with fail
  go_loopw [5] (fun k wr => ∃ (K : Nat), k = .int .i64 (K : Int) ∧ K ≤ N ∧ Hid (Below w.heap.size w wr)) (fun k _ => N - (intOf k).toNat)
  case atStart => exact ⟨0, rfl, Nat.zero_le _, Lib.hid (Below.refl _ _)⟩
  case round =>
    obtain ⟨K, rfl, hK, HB⟩ := hrel
    by_cases hlt : K < N
    · have hltI : (K : Int) < (N : Int) := by omega
      have hk0 : 0 ≤ (K : Int) := by omega
      have hwK := wrap_next K (by have := HL.out; omega)
      obtain ⟨x, hx⟩ : ∃ e, l[K]? = some e := ⟨_, List.getElem?_eq_getElem (by rw [HN.out]; exact hlt)⟩
      obtain ⟨b, off, ea, cs, -, ⟨x1, rfl, hx1⟩, hc⟩ := HS.out K x hx
      obtain ⟨b', off', ea', cs', -, ⟨x1', rfl, hx1'⟩, hc'⟩ := HS'.out K x hx
      subst ea ea'
      have hin := HV.out x (List.mem_of_getElem? hx)
      obtain ⟨n0, ar⟩ := x
      dsimp only at hx1 hx1' hin
      have k0 : wr.cell? ⟨b, off + K * 2, none⟩ = some (.int .i64 n0) := kept_cell HB.out (hc 0 _ rfl)
      have k1 : wr.cell? ⟨b, off + K * 2 + 1, none⟩ = some x1 := kept_cell HB.out (hc 1 _ rfl)
      have j0 : wr.cell? ⟨b', off' + K * 2, none⟩ = some (.int .i64 n0) := kept_cell HB.out (hc' 0 _ rfl)
      have j1 : wr.cell? ⟨b', off' + K * 2 + 1, none⟩ = some x1' := kept_cell HB.out (hc' 1 _ rfl)
      have C1 := fun W (hb : Below w.heap.size w W) => L.ints x1 x1' ar W hin (hx1.below hb) (hx1'.below hb)
      clear hc hc' hx hx1 hx1' hin
      have hS0 : (wr.drew.cell? ⟨b, off + K * 2, none⟩ = some (Value.int .i64 n0) ∧ wr.drew.cell? ⟨b, off + K * 2 + 1, none⟩ = some (x1) ∧ wr.drew.cell? ⟨b', off' + K * 2, none⟩ = some (Value.int .i64 n0) ∧ wr.drew.cell? ⟨b', off' + K * 2 + 1, none⟩ = some (x1') ∧ Below w.heap.size w wr.drew) := ⟨k0, k1, j0, j1, HB.out.drew⟩
      haveI hne : Nonempty (Wd (fun W => (W.cell? ⟨b, off + K * 2, none⟩ = some (Value.int .i64 n0) ∧ W.cell? ⟨b, off + K * 2 + 1, none⟩ = some (x1) ∧ W.cell? ⟨b', off' + K * 2, none⟩ = some (Value.int .i64 n0) ∧ W.cell? ⟨b', off' + K * 2 + 1, none⟩ = some (x1') ∧ Below w.heap.size w W))) := ⟨⟨_, hS0⟩⟩
      have q0 := fun x : Wd (fun W => (W.cell? ⟨b, off + K * 2, none⟩ = some (Value.int .i64 n0) ∧ W.cell? ⟨b, off + K * 2 + 1, none⟩ = some (x1) ∧ W.cell? ⟨b', off' + K * 2, none⟩ = some (Value.int .i64 n0) ∧ W.cell? ⟨b', off' + K * 2 + 1, none⟩ = some (x1') ∧ Below w.heap.size w W)) => x.ok.1
      have q1 := fun x : Wd (fun W => (W.cell? ⟨b, off + K * 2, none⟩ = some (Value.int .i64 n0) ∧ W.cell? ⟨b, off + K * 2 + 1, none⟩ = some (x1) ∧ W.cell? ⟨b', off' + K * 2, none⟩ = some (Value.int .i64 n0) ∧ W.cell? ⟨b', off' + K * 2 + 1, none⟩ = some (x1') ∧ Below w.heap.size w W)) => x.ok.2.1
      have q2 := fun x : Wd (fun W => (W.cell? ⟨b, off + K * 2, none⟩ = some (Value.int .i64 n0) ∧ W.cell? ⟨b, off + K * 2 + 1, none⟩ = some (x1) ∧ W.cell? ⟨b', off' + K * 2, none⟩ = some (Value.int .i64 n0) ∧ W.cell? ⟨b', off' + K * 2 + 1, none⟩ = some (x1') ∧ Below w.heap.size w W)) => x.ok.2.2.1
      have q3 := fun x : Wd (fun W => (W.cell? ⟨b, off + K * 2, none⟩ = some (Value.int .i64 n0) ∧ W.cell? ⟨b, off + K * 2 + 1, none⟩ = some (x1) ∧ W.cell? ⟨b', off' + K * 2, none⟩ = some (Value.int .i64 n0) ∧ W.cell? ⟨b', off' + K * 2 + 1, none⟩ = some (x1') ∧ Below w.heap.size w W)) => x.ok.2.2.2.1
      try dsimp only at q0 q1 q2 q3
      have G1 := Lib.hid (fun (W : World) (hS : (W.cell? ⟨b, off + K * 2, none⟩ = some (Value.int .i64 n0) ∧ W.cell? ⟨b, off + K * 2 + 1, none⟩ = some (x1) ∧ W.cell? ⟨b', off' + K * 2, none⟩ = some (Value.int .i64 n0) ∧ W.cell? ⟨b', off' + K * 2 + 1, none⟩ = some (x1') ∧ Below w.heap.size w W)) => (C1 W hS.2.2.2.2).mono (fun e (w' : World) ⟨h1, h2⟩ => (⟨h1, kept_cell h2 hS.1, kept_cell h2 hS.2.1, kept_cell h2 hS.2.2.1, kept_cell h2 hS.2.2.2.1, hS.2.2.2.2.trans (h2.mono hS.2.2.2.2.size)⟩ : e = Ending.returned (Value.bool true) ∧ (w'.cell? ⟨b, off + K * 2, none⟩ = some (Value.int .i64 n0) ∧ w'.cell? ⟨b, off + K * 2 + 1, none⟩ = some (x1) ∧ w'.cell? ⟨b', off' + K * 2, none⟩ = some (Value.int .i64 n0) ∧ w'.cell? ⟨b', off' + K * 2 + 1, none⟩ = some (x1') ∧ Below w.heap.size w w'))))
      have QG1 := wd_call (S := fun W => (W.cell? ⟨b, off + K * 2, none⟩ = some (Value.int .i64 n0) ∧ W.cell? ⟨b, off + K * 2 + 1, none⟩ = some (x1) ∧ W.cell? ⟨b', off' + K * 2, none⟩ = some (Value.int .i64 n0) ∧ W.cell? ⟨b', off' + K * 2 + 1, none⟩ = some (x1') ∧ Below w.heap.size w W)) G1.out
      go_upto_region 6 with fail
      refine wp_region_quiet_wd (S := fun W => (W.cell? ⟨b, off + K * 2, none⟩ = some (Value.int .i64 n0) ∧ W.cell? ⟨b, off + K * 2 + 1, none⟩ = some (x1) ∧ W.cell? ⟨b', off' + K * 2, none⟩ = some (Value.int .i64 n0) ∧ W.cell? ⟨b', off' + K * 2 + 1, none⟩ = some (x1') ∧ Below w.heap.size w W)) (by kernel_rfl) (by kernel_rfl) hS0 ?_
      repeat (go_big_quiet_step (first | (with_reducible exact QG1 _)))
      refine wpQuiet_nil ?_
      intro _ hw'
      obtain ⟨⟨wq, hSq⟩, rfl⟩ := hw'
      try dsimp only
      clear hne hS0 q0 q1 q2 q3 G1 QG1
      go_wp2_with fail
      go_roundw
      case rel => exact ⟨K + 1, by go_num, by omega, Lib.hid hSq.2.2.2.2⟩
      case measure => simp [intOf]; omega
    · have hltI : ¬ (K : Int) < (N : Int) := by omega
      go_wp2_with fail
      go_ret
      exact ⟨rfl, HB.out⟩

set_option maxHeartbeats 2000000 in
theorem sameRec_any (L : Low) (c : Rc) (v v' : Value) (w : World) (h : EvsIs w v c.events) (h' : EvsIs w v' c.events) (hl : c.events.length ≤ 17592186044416) (hv8 : ∀ e ∈ c.events, e.vars.length ≤ 4611686018427387904) :
    Calls Tryz.prog 22 #[.agg #[.int .i64 c.client, .int .i64 c.seq, .string (str c.stream), .int .i64 c.code, v], .agg #[.int .i64 c.client, .int .i64 c.seq, .string (str c.stream), .int .i64 c.code, v']] w fun z w' => z = .returned (.bool true) ∧ Below w.heap.size w w' := by
  obtain ⟨n0, n1, s, n3, ev⟩ := c
  dsimp only at h h' hl hv8 ⊢
  have HI := Lib.hid (fun (W : World) (hb : Below w.heap.size w W) => sameEvs_any L ev v v' W (h.below hb) (h'.below hb) hl hv8)
  obtain ⟨W0, hW0⟩ : ∃ W0, w.alloc (.cells #[.int .i64 n0, .int .i64 n1, .string (str s), .int .i64 n3, v] 44) = W0 := ⟨_, rfl⟩
  obtain ⟨g, hg⟩ : ∃ g, W0.heap.size = g := ⟨_, rfl⟩
  obtain ⟨W1, hW1⟩ : ∃ W1, W0.alloc (.cells #[.int .i64 n0, .int .i64 n1, .string (str s), .int .i64 n3, v'] 44) = W1 := ⟨_, rfl⟩
  have hB0 : Below w.heap.size w W0 := by rw [← hW0]; exact below_alloc _ _
  have hB1 : Below W0.heap.size W0 W1 := by rw [← hW1]; exact below_alloc _ _
  have k0 : W1.cell? ⟨w.heap.size, 0, none⟩ = some (.int .i64 n0) := kept_cell hB1 (by rw [← hW0]; exact alloc_cell w [_, _, _, _, _] _ 0 _ rfl)
  have k1 : W1.cell? ⟨w.heap.size, 1, none⟩ = some (.int .i64 n1) := kept_cell hB1 (by rw [← hW0]; exact alloc_cell w [_, _, _, _, _] _ 1 _ rfl)
  have k2 : W1.cell? ⟨w.heap.size, 2, none⟩ = some (.string (str s)) := kept_cell hB1 (by rw [← hW0]; exact alloc_cell w [_, _, _, _, _] _ 2 _ rfl)
  have k3 : W1.cell? ⟨w.heap.size, 3, none⟩ = some (.int .i64 n3) := kept_cell hB1 (by rw [← hW0]; exact alloc_cell w [_, _, _, _, _] _ 3 _ rfl)
  have k4 : W1.cell? ⟨w.heap.size, 4, none⟩ = some (v) := kept_cell hB1 (by rw [← hW0]; exact alloc_cell w [_, _, _, _, _] _ 4 _ rfl)
  have j0 : W1.cell? ⟨g, 0, none⟩ = some (.int .i64 n0) := by rw [← hW1, ← hg]; exact alloc_cell W0 [_, _, _, _, _] _ 0 _ rfl
  have j1 : W1.cell? ⟨g, 1, none⟩ = some (.int .i64 n1) := by rw [← hW1, ← hg]; exact alloc_cell W0 [_, _, _, _, _] _ 1 _ rfl
  have j2 : W1.cell? ⟨g, 2, none⟩ = some (.string (str s)) := by rw [← hW1, ← hg]; exact alloc_cell W0 [_, _, _, _, _] _ 2 _ rfl
  have j3 : W1.cell? ⟨g, 3, none⟩ = some (.int .i64 n3) := by rw [← hW1, ← hg]; exact alloc_cell W0 [_, _, _, _, _] _ 3 _ rfl
  have j4 : W1.cell? ⟨g, 4, none⟩ = some (v') := by rw [← hW1, ← hg]; exact alloc_cell W0 [_, _, _, _, _] _ 4 _ rfl
  have hb := hB0.trans (hB1.mono hB0.size)
  have HB := Lib.hid hb
  have HH := Lib.hid (HI.out W1 hb)
  clear hB0 hB1 hb HI h h'
  go_enter Tryz.func22, Tryz.ntmps22
  go_wp2_with fail
  refine HH.out.mono ?_
  rintro _ w2 ⟨rfl, hb2⟩
  have HB2 := Lib.hid (HB.out.trans (hb2.mono HB.out.size))
  clear hb2
  go_wp2_with fail
  go_ret
  exact ⟨rfl, HB2.out⟩

set_option maxHeartbeats 4000000 in
theorem sameVds_any (L : Low) (l : List Vd) (v v' : Value) (w : World) (h : VdsIs w v l) (h' : VdsIs w v' l) (hl : l.length ≤ 17592186044416) :
    Calls Tryz.prog 26 #[v, v'] w fun z w' => z = .returned (.bool true) ∧ Below w.heap.size w w' := by
  obtain ⟨a, cap, rfl, hz⟩ := h.open
  obtain ⟨a', cap', rfl, hz'⟩ := h'.open
  have HS := Lib.hid hz
  have HS' := Lib.hid hz'
  obtain ⟨N, hN⟩ : ∃ N, l.length = N := ⟨_, rfl⟩
  rw [hN] at hl ⊢
  have HL := Lib.hid hl
  have HN := Lib.hid hN
  clear hN hl h h' hz hz'
  go_enter Tryz.func26, Tryz.ntmps26
  go_wp2_with fail
  go_loopw [5] (fun k wr => ∃ (K : Nat), k = .int .i64 (K : Int) ∧ K ≤ N ∧ Hid (Below w.heap.size w wr)) (fun k _ => N - (intOf k).toNat)
  case atStart => exact ⟨0, rfl, Nat.zero_le _, Lib.hid (Below.refl _ _)⟩
  case round =>
    obtain ⟨K, rfl, hK, HB⟩ := hrel
    by_cases hlt : K < N
    · have hltI : (K : Int) < (N : Int) := by omega
      have hk0 : 0 ≤ (K : Int) := by omega
      have hwK := wrap_next K (by have := HL.out; omega)
      obtain ⟨x, hx⟩ : ∃ e, l[K]? = some e := ⟨_, List.getElem?_eq_getElem (by rw [HN.out]; exact hlt)⟩
      obtain ⟨b, off, ea, cs, -, rfl, hc⟩ := HS.out K x hx
      obtain ⟨b', off', ea', cs', -, rfl, hc'⟩ := HS'.out K x hx
      subst ea ea'
      obtain ⟨n0, n1⟩ := x
      have k0 : wr.cell? ⟨b, off + K * 2, none⟩ = some (.int .i64 n0) := kept_cell HB.out (hc 0 _ rfl)
      have k1 : wr.cell? ⟨b, off + K * 2 + 1, none⟩ = some (.int .i64 n1) := kept_cell HB.out (hc 1 _ rfl)
      have j0 : wr.cell? ⟨b', off' + K * 2, none⟩ = some (.int .i64 n0) := kept_cell HB.out (hc' 0 _ rfl)
      have j1 : wr.cell? ⟨b', off' + K * 2 + 1, none⟩ = some (.int .i64 n1) := kept_cell HB.out (hc' 1 _ rfl)
      clear hc hc' hx
      have hS0 : (wr.drew.cell? ⟨b, off + K * 2, none⟩ = some (Value.int .i64 n0) ∧ wr.drew.cell? ⟨b, off + K * 2 + 1, none⟩ = some (Value.int .i64 n1) ∧ wr.drew.cell? ⟨b', off' + K * 2, none⟩ = some (Value.int .i64 n0) ∧ wr.drew.cell? ⟨b', off' + K * 2 + 1, none⟩ = some (Value.int .i64 n1) ∧ Below w.heap.size w wr.drew) := ⟨k0, k1, j0, j1, HB.out.drew⟩
      haveI hne : Nonempty (Wd (fun W => (W.cell? ⟨b, off + K * 2, none⟩ = some (Value.int .i64 n0) ∧ W.cell? ⟨b, off + K * 2 + 1, none⟩ = some (Value.int .i64 n1) ∧ W.cell? ⟨b', off' + K * 2, none⟩ = some (Value.int .i64 n0) ∧ W.cell? ⟨b', off' + K * 2 + 1, none⟩ = some (Value.int .i64 n1) ∧ Below w.heap.size w W))) := ⟨⟨_, hS0⟩⟩
      have q0 := fun x : Wd (fun W => (W.cell? ⟨b, off + K * 2, none⟩ = some (Value.int .i64 n0) ∧ W.cell? ⟨b, off + K * 2 + 1, none⟩ = some (Value.int .i64 n1) ∧ W.cell? ⟨b', off' + K * 2, none⟩ = some (Value.int .i64 n0) ∧ W.cell? ⟨b', off' + K * 2 + 1, none⟩ = some (Value.int .i64 n1) ∧ Below w.heap.size w W)) => x.ok.1
      have q1 := fun x : Wd (fun W => (W.cell? ⟨b, off + K * 2, none⟩ = some (Value.int .i64 n0) ∧ W.cell? ⟨b, off + K * 2 + 1, none⟩ = some (Value.int .i64 n1) ∧ W.cell? ⟨b', off' + K * 2, none⟩ = some (Value.int .i64 n0) ∧ W.cell? ⟨b', off' + K * 2 + 1, none⟩ = some (Value.int .i64 n1) ∧ Below w.heap.size w W)) => x.ok.2.1
      have q2 := fun x : Wd (fun W => (W.cell? ⟨b, off + K * 2, none⟩ = some (Value.int .i64 n0) ∧ W.cell? ⟨b, off + K * 2 + 1, none⟩ = some (Value.int .i64 n1) ∧ W.cell? ⟨b', off' + K * 2, none⟩ = some (Value.int .i64 n0) ∧ W.cell? ⟨b', off' + K * 2 + 1, none⟩ = some (Value.int .i64 n1) ∧ Below w.heap.size w W)) => x.ok.2.2.1
      have q3 := fun x : Wd (fun W => (W.cell? ⟨b, off + K * 2, none⟩ = some (Value.int .i64 n0) ∧ W.cell? ⟨b, off + K * 2 + 1, none⟩ = some (Value.int .i64 n1) ∧ W.cell? ⟨b', off' + K * 2, none⟩ = some (Value.int .i64 n0) ∧ W.cell? ⟨b', off' + K * 2 + 1, none⟩ = some (Value.int .i64 n1) ∧ Below w.heap.size w W)) => x.ok.2.2.2.1
      try dsimp only at q0 q1 q2 q3
      go_upto_region 6 with fail
      refine wp_region_quiet_wd (S := fun W => (W.cell? ⟨b, off + K * 2, none⟩ = some (Value.int .i64 n0) ∧ W.cell? ⟨b, off + K * 2 + 1, none⟩ = some (Value.int .i64 n1) ∧ W.cell? ⟨b', off' + K * 2, none⟩ = some (Value.int .i64 n0) ∧ W.cell? ⟨b', off' + K * 2 + 1, none⟩ = some (Value.int .i64 n1) ∧ Below w.heap.size w W)) (by kernel_rfl) (by kernel_rfl) hS0 ?_
      repeat (go_big_quiet_step (first | fail))
      refine wpQuiet_nil ?_
      intro _ hw'
      obtain ⟨⟨wq, hSq⟩, rfl⟩ := hw'
      try dsimp only
      clear hne hS0 q0 q1 q2 q3 
      go_wp2_with fail
      go_roundw
      case rel => exact ⟨K + 1, by go_num, by omega, Lib.hid hSq.2.2.2.2⟩
      case measure => simp [intOf]; omega
    · have hltI : ¬ (K : Int) < (N : Int) := by omega
      go_wp2_with fail
      go_ret
      exact ⟨rfl, HB.out⟩

set_option maxHeartbeats 4000000 in
theorem sameItems_any (L : Low) (l : List It) (v v' : Value) (w : World) (h : ItsIs w v l) (h' : ItsIs w v' l) (hl : l.length ≤ 17592186044416) (hv8 : ∀ e ∈ l, e.st.vars.length ≤ 4611686018427387904) :
    Calls Tryz.prog 24 #[v, v'] w fun z w' => z = .returned (.bool true) ∧ Below w.heap.size w w' := by
  obtain ⟨a, cap, rfl, hz⟩ := h.open
  obtain ⟨a', cap', rfl, hz'⟩ := h'.open
  have HS := Lib.hid hz
  have HS' := Lib.hid hz'
  have HV := Lib.hid hv8
  obtain ⟨N, hN⟩ : ∃ N, l.length = N := ⟨_, rfl⟩
  rw [hN] at hl ⊢
  have HL := Lib.hid hl
  have HN := Lib.hid hN
  clear hN hl h h' hz hz'
  go_enter Tryz.func24, Tryz.ntmps24
  go_wp2_with fail
  go_loopw [5] (fun k wr => ∃ (K : Nat), k = .int .i64 (K : Int) ∧ K ≤ N ∧ Hid (Below w.heap.size w wr)) (fun k _ => N - (intOf k).toNat)
  case atStart => exact ⟨0, rfl, Nat.zero_le _, Lib.hid (Below.refl _ _)⟩
  case round =>
    obtain ⟨K, rfl, hK, HB⟩ := hrel
    by_cases hlt : K < N
    · have hltI : (K : Int) < (N : Int) := by omega
      have hk0 : 0 ≤ (K : Int) := by omega
      have hwK := wrap_next K (by have := HL.out; omega)
      obtain ⟨x, hx⟩ : ∃ e, l[K]? = some e := ⟨_, List.getElem?_eq_getElem (by rw [HN.out]; exact hlt)⟩
      obtain ⟨b, off, ea, cs, -, ⟨x1, rfl, hx1⟩, hc⟩ := HS.out K x hx
      obtain ⟨b', off', ea', cs', -, ⟨x1', rfl, hx1'⟩, hc'⟩ := HS'.out K x hx
      subst ea ea'
      have hin := HV.out x (List.mem_of_getElem? hx)
      obtain ⟨s, st⟩ := x
      obtain ⟨n0, n1, ar⟩ := st
      dsimp only at hx1 hx1' hin
      have C1 := fun W (hb : Below w.heap.size w W) => sameSt_any L ⟨n0, n1, ar⟩ x1 x1' W (hx1.below hb) (hx1'.below hb) hin
      dsimp only at C1
      have k0 : wr.cell? ⟨b, off + K * 4, none⟩ = some (Value.string (str s)) := kept_cell HB.out (hc 0 _ rfl)
      have k1 : wr.cell? ⟨b, off + K * 4 + 1, none⟩ = some (Value.int .i64 n0) := kept_cell HB.out (hc 1 _ rfl)
      have k2 : wr.cell? ⟨b, off + K * 4 + 2, none⟩ = some (Value.int .i64 n1) := kept_cell HB.out (hc 2 _ rfl)
      have k3 : wr.cell? ⟨b, off + K * 4 + 3, none⟩ = some (x1) := kept_cell HB.out (hc 3 _ rfl)
      have k4 : wr.cell? ⟨b', off' + K * 4, none⟩ = some (Value.string (str s)) := kept_cell HB.out (hc' 0 _ rfl)
      have k5 : wr.cell? ⟨b', off' + K * 4 + 1, none⟩ = some (Value.int .i64 n0) := kept_cell HB.out (hc' 1 _ rfl)
      have k6 : wr.cell? ⟨b', off' + K * 4 + 2, none⟩ = some (Value.int .i64 n1) := kept_cell HB.out (hc' 2 _ rfl)
      have k7 : wr.cell? ⟨b', off' + K * 4 + 3, none⟩ = some (x1') := kept_cell HB.out (hc' 3 _ rfl)
      clear hc hc' hx hx1 hx1' hin
      have hS0 : (wr.drew.cell? ⟨b, off + K * 4, none⟩ = some (Value.string (str s)) ∧ wr.drew.cell? ⟨b, off + K * 4 + 1, none⟩ = some (Value.int .i64 n0) ∧ wr.drew.cell? ⟨b, off + K * 4 + 2, none⟩ = some (Value.int .i64 n1) ∧ wr.drew.cell? ⟨b, off + K * 4 + 3, none⟩ = some (x1) ∧ wr.drew.cell? ⟨b', off' + K * 4, none⟩ = some (Value.string (str s)) ∧ wr.drew.cell? ⟨b', off' + K * 4 + 1, none⟩ = some (Value.int .i64 n0) ∧ wr.drew.cell? ⟨b', off' + K * 4 + 2, none⟩ = some (Value.int .i64 n1) ∧ wr.drew.cell? ⟨b', off' + K * 4 + 3, none⟩ = some (x1') ∧ Below w.heap.size w wr.drew) := ⟨k0, k1, k2, k3, k4, k5, k6, k7, HB.out.drew⟩
      haveI hne : Nonempty (Wd (fun W => (W.cell? ⟨b, off + K * 4, none⟩ = some (Value.string (str s)) ∧ W.cell? ⟨b, off + K * 4 + 1, none⟩ = some (Value.int .i64 n0) ∧ W.cell? ⟨b, off + K * 4 + 2, none⟩ = some (Value.int .i64 n1) ∧ W.cell? ⟨b, off + K * 4 + 3, none⟩ = some (x1) ∧ W.cell? ⟨b', off' + K * 4, none⟩ = some (Value.string (str s)) ∧ W.cell? ⟨b', off' + K * 4 + 1, none⟩ = some (Value.int .i64 n0) ∧ W.cell? ⟨b', off' + K * 4 + 2, none⟩ = some (Value.int .i64 n1) ∧ W.cell? ⟨b', off' + K * 4 + 3, none⟩ = some (x1') ∧ Below w.heap.size w W))) := ⟨⟨_, hS0⟩⟩
      have q0 := fun x : Wd (fun W => (W.cell? ⟨b, off + K * 4, none⟩ = some (Value.string (str s)) ∧ W.cell? ⟨b, off + K * 4 + 1, none⟩ = some (Value.int .i64 n0) ∧ W.cell? ⟨b, off + K * 4 + 2, none⟩ = some (Value.int .i64 n1) ∧ W.cell? ⟨b, off + K * 4 + 3, none⟩ = some (x1) ∧ W.cell? ⟨b', off' + K * 4, none⟩ = some (Value.string (str s)) ∧ W.cell? ⟨b', off' + K * 4 + 1, none⟩ = some (Value.int .i64 n0) ∧ W.cell? ⟨b', off' + K * 4 + 2, none⟩ = some (Value.int .i64 n1) ∧ W.cell? ⟨b', off' + K * 4 + 3, none⟩ = some (x1') ∧ Below w.heap.size w W)) => x.ok.1
      have q1 := fun x : Wd (fun W => (W.cell? ⟨b, off + K * 4, none⟩ = some (Value.string (str s)) ∧ W.cell? ⟨b, off + K * 4 + 1, none⟩ = some (Value.int .i64 n0) ∧ W.cell? ⟨b, off + K * 4 + 2, none⟩ = some (Value.int .i64 n1) ∧ W.cell? ⟨b, off + K * 4 + 3, none⟩ = some (x1) ∧ W.cell? ⟨b', off' + K * 4, none⟩ = some (Value.string (str s)) ∧ W.cell? ⟨b', off' + K * 4 + 1, none⟩ = some (Value.int .i64 n0) ∧ W.cell? ⟨b', off' + K * 4 + 2, none⟩ = some (Value.int .i64 n1) ∧ W.cell? ⟨b', off' + K * 4 + 3, none⟩ = some (x1') ∧ Below w.heap.size w W)) => x.ok.2.1
      have q2 := fun x : Wd (fun W => (W.cell? ⟨b, off + K * 4, none⟩ = some (Value.string (str s)) ∧ W.cell? ⟨b, off + K * 4 + 1, none⟩ = some (Value.int .i64 n0) ∧ W.cell? ⟨b, off + K * 4 + 2, none⟩ = some (Value.int .i64 n1) ∧ W.cell? ⟨b, off + K * 4 + 3, none⟩ = some (x1) ∧ W.cell? ⟨b', off' + K * 4, none⟩ = some (Value.string (str s)) ∧ W.cell? ⟨b', off' + K * 4 + 1, none⟩ = some (Value.int .i64 n0) ∧ W.cell? ⟨b', off' + K * 4 + 2, none⟩ = some (Value.int .i64 n1) ∧ W.cell? ⟨b', off' + K * 4 + 3, none⟩ = some (x1') ∧ Below w.heap.size w W)) => x.ok.2.2.1
      have q3 := fun x : Wd (fun W => (W.cell? ⟨b, off + K * 4, none⟩ = some (Value.string (str s)) ∧ W.cell? ⟨b, off + K * 4 + 1, none⟩ = some (Value.int .i64 n0) ∧ W.cell? ⟨b, off + K * 4 + 2, none⟩ = some (Value.int .i64 n1) ∧ W.cell? ⟨b, off + K * 4 + 3, none⟩ = some (x1) ∧ W.cell? ⟨b', off' + K * 4, none⟩ = some (Value.string (str s)) ∧ W.cell? ⟨b', off' + K * 4 + 1, none⟩ = some (Value.int .i64 n0) ∧ W.cell? ⟨b', off' + K * 4 + 2, none⟩ = some (Value.int .i64 n1) ∧ W.cell? ⟨b', off' + K * 4 + 3, none⟩ = some (x1') ∧ Below w.heap.size w W)) => x.ok.2.2.2.1
      have q4 := fun x : Wd (fun W => (W.cell? ⟨b, off + K * 4, none⟩ = some (Value.string (str s)) ∧ W.cell? ⟨b, off + K * 4 + 1, none⟩ = some (Value.int .i64 n0) ∧ W.cell? ⟨b, off + K * 4 + 2, none⟩ = some (Value.int .i64 n1) ∧ W.cell? ⟨b, off + K * 4 + 3, none⟩ = some (x1) ∧ W.cell? ⟨b', off' + K * 4, none⟩ = some (Value.string (str s)) ∧ W.cell? ⟨b', off' + K * 4 + 1, none⟩ = some (Value.int .i64 n0) ∧ W.cell? ⟨b', off' + K * 4 + 2, none⟩ = some (Value.int .i64 n1) ∧ W.cell? ⟨b', off' + K * 4 + 3, none⟩ = some (x1') ∧ Below w.heap.size w W)) => x.ok.2.2.2.2.1
      have q5 := fun x : Wd (fun W => (W.cell? ⟨b, off + K * 4, none⟩ = some (Value.string (str s)) ∧ W.cell? ⟨b, off + K * 4 + 1, none⟩ = some (Value.int .i64 n0) ∧ W.cell? ⟨b, off + K * 4 + 2, none⟩ = some (Value.int .i64 n1) ∧ W.cell? ⟨b, off + K * 4 + 3, none⟩ = some (x1) ∧ W.cell? ⟨b', off' + K * 4, none⟩ = some (Value.string (str s)) ∧ W.cell? ⟨b', off' + K * 4 + 1, none⟩ = some (Value.int .i64 n0) ∧ W.cell? ⟨b', off' + K * 4 + 2, none⟩ = some (Value.int .i64 n1) ∧ W.cell? ⟨b', off' + K * 4 + 3, none⟩ = some (x1') ∧ Below w.heap.size w W)) => x.ok.2.2.2.2.2.1
      have q6 := fun x : Wd (fun W => (W.cell? ⟨b, off + K * 4, none⟩ = some (Value.string (str s)) ∧ W.cell? ⟨b, off + K * 4 + 1, none⟩ = some (Value.int .i64 n0) ∧ W.cell? ⟨b, off + K * 4 + 2, none⟩ = some (Value.int .i64 n1) ∧ W.cell? ⟨b, off + K * 4 + 3, none⟩ = some (x1) ∧ W.cell? ⟨b', off' + K * 4, none⟩ = some (Value.string (str s)) ∧ W.cell? ⟨b', off' + K * 4 + 1, none⟩ = some (Value.int .i64 n0) ∧ W.cell? ⟨b', off' + K * 4 + 2, none⟩ = some (Value.int .i64 n1) ∧ W.cell? ⟨b', off' + K * 4 + 3, none⟩ = some (x1') ∧ Below w.heap.size w W)) => x.ok.2.2.2.2.2.2.1
      have q7 := fun x : Wd (fun W => (W.cell? ⟨b, off + K * 4, none⟩ = some (Value.string (str s)) ∧ W.cell? ⟨b, off + K * 4 + 1, none⟩ = some (Value.int .i64 n0) ∧ W.cell? ⟨b, off + K * 4 + 2, none⟩ = some (Value.int .i64 n1) ∧ W.cell? ⟨b, off + K * 4 + 3, none⟩ = some (x1) ∧ W.cell? ⟨b', off' + K * 4, none⟩ = some (Value.string (str s)) ∧ W.cell? ⟨b', off' + K * 4 + 1, none⟩ = some (Value.int .i64 n0) ∧ W.cell? ⟨b', off' + K * 4 + 2, none⟩ = some (Value.int .i64 n1) ∧ W.cell? ⟨b', off' + K * 4 + 3, none⟩ = some (x1') ∧ Below w.heap.size w W)) => x.ok.2.2.2.2.2.2.2.1
      try dsimp only at q0 q1 q2 q3 q4 q5 q6 q7
      have G1 := Lib.hid (fun (W : World) (hS : (W.cell? ⟨b, off + K * 4, none⟩ = some (Value.string (str s)) ∧ W.cell? ⟨b, off + K * 4 + 1, none⟩ = some (Value.int .i64 n0) ∧ W.cell? ⟨b, off + K * 4 + 2, none⟩ = some (Value.int .i64 n1) ∧ W.cell? ⟨b, off + K * 4 + 3, none⟩ = some (x1) ∧ W.cell? ⟨b', off' + K * 4, none⟩ = some (Value.string (str s)) ∧ W.cell? ⟨b', off' + K * 4 + 1, none⟩ = some (Value.int .i64 n0) ∧ W.cell? ⟨b', off' + K * 4 + 2, none⟩ = some (Value.int .i64 n1) ∧ W.cell? ⟨b', off' + K * 4 + 3, none⟩ = some (x1') ∧ Below w.heap.size w W)) => (C1 W hS.2.2.2.2.2.2.2.2).mono (fun e (w' : World) ⟨h1, h2⟩ => (⟨h1, kept_cell h2 hS.1, kept_cell h2 hS.2.1, kept_cell h2 hS.2.2.1, kept_cell h2 hS.2.2.2.1, kept_cell h2 hS.2.2.2.2.1, kept_cell h2 hS.2.2.2.2.2.1, kept_cell h2 hS.2.2.2.2.2.2.1, kept_cell h2 hS.2.2.2.2.2.2.2.1, hS.2.2.2.2.2.2.2.2.trans (h2.mono hS.2.2.2.2.2.2.2.2.size)⟩ : e = Ending.returned (Value.bool true) ∧ (w'.cell? ⟨b, off + K * 4, none⟩ = some (Value.string (str s)) ∧ w'.cell? ⟨b, off + K * 4 + 1, none⟩ = some (Value.int .i64 n0) ∧ w'.cell? ⟨b, off + K * 4 + 2, none⟩ = some (Value.int .i64 n1) ∧ w'.cell? ⟨b, off + K * 4 + 3, none⟩ = some (x1) ∧ w'.cell? ⟨b', off' + K * 4, none⟩ = some (Value.string (str s)) ∧ w'.cell? ⟨b', off' + K * 4 + 1, none⟩ = some (Value.int .i64 n0) ∧ w'.cell? ⟨b', off' + K * 4 + 2, none⟩ = some (Value.int .i64 n1) ∧ w'.cell? ⟨b', off' + K * 4 + 3, none⟩ = some (x1') ∧ Below w.heap.size w w'))))
      have QG1 := wd_call (S := fun W => (W.cell? ⟨b, off + K * 4, none⟩ = some (Value.string (str s)) ∧ W.cell? ⟨b, off + K * 4 + 1, none⟩ = some (Value.int .i64 n0) ∧ W.cell? ⟨b, off + K * 4 + 2, none⟩ = some (Value.int .i64 n1) ∧ W.cell? ⟨b, off + K * 4 + 3, none⟩ = some (x1) ∧ W.cell? ⟨b', off' + K * 4, none⟩ = some (Value.string (str s)) ∧ W.cell? ⟨b', off' + K * 4 + 1, none⟩ = some (Value.int .i64 n0) ∧ W.cell? ⟨b', off' + K * 4 + 2, none⟩ = some (Value.int .i64 n1) ∧ W.cell? ⟨b', off' + K * 4 + 3, none⟩ = some (x1') ∧ Below w.heap.size w W)) G1.out
      go_upto_region 6 with fail
      refine wp_region_quiet_wd (S := fun W => (W.cell? ⟨b, off + K * 4, none⟩ = some (Value.string (str s)) ∧ W.cell? ⟨b, off + K * 4 + 1, none⟩ = some (Value.int .i64 n0) ∧ W.cell? ⟨b, off + K * 4 + 2, none⟩ = some (Value.int .i64 n1) ∧ W.cell? ⟨b, off + K * 4 + 3, none⟩ = some (x1) ∧ W.cell? ⟨b', off' + K * 4, none⟩ = some (Value.string (str s)) ∧ W.cell? ⟨b', off' + K * 4 + 1, none⟩ = some (Value.int .i64 n0) ∧ W.cell? ⟨b', off' + K * 4 + 2, none⟩ = some (Value.int .i64 n1) ∧ W.cell? ⟨b', off' + K * 4 + 3, none⟩ = some (x1') ∧ Below w.heap.size w W)) (by kernel_rfl) (by kernel_rfl) hS0 ?_
      repeat (go_big_quiet_step (first | (with_reducible exact QG1 _)))
      refine wpQuiet_nil ?_
      intro _ hw'
      obtain ⟨⟨wq, hSq⟩, rfl⟩ := hw'
      try dsimp only
      clear hne hS0 q0 q1 q2 q3 q4 q5 q6 q7 G1 QG1
      go_wp2_with fail
      go_roundw
      case rel => exact ⟨K + 1, by go_num, by omega, Lib.hid hSq.2.2.2.2.2.2.2.2⟩
      case measure => simp [intOf]; omega
    · have hltI : ¬ (K : Int) < (N : Int) := by omega
      go_wp2_with fail
      go_ret
      exact ⟨rfl, HB.out⟩
end Go.Proofs.YtebglkpejdoggaaGreat.C10

namespace Go.Proofs.YtebglkpejdoggaaGreat.V
open Go

/-- A number's bytes. -/
def num (n : Int) : List UInt8 := Lib.uvarint (Lib.zigzag n)

theorem num_len (n : Int) (h0 : -9223372036854775808 ≤ n) (h1 : n ≤ 9223372036854775807) : (num n).length ≤ 10 := Lib.uvarint_length64 (Lib.zigzag_lt h0 h1)
theorem num_pos (n : Int) : 1 ≤ (num n).length := Lib.uvarint_pos _

/-- A string that is given by its bytes. -/
def str (l : List UInt8) : ByteArray := ⟨l.toArray⟩
theorem str_size (l : List UInt8) : (str l).size = l.length := by simp [str, ByteArray.size]
theorem str_data (l : List UInt8) : (str l).data.toList = l := by simp [str]
theorem str_eq (s : ByteArray) : str s.data.toList = s := by obtain ⟨⟨l⟩⟩ := s; rfl
theorem str_toList (l : List UInt8) : (str l).toList = l := by rw [Lib.toList_data]; exact str_data l
theorem str_append (a b : List UInt8) : str a ++ str b = str (a ++ b) := by unfold str; exact ByteArray.mk_append_mk a b
theorem str_inj {a b : List UInt8} (h : str a = str b) : a = b := by rw [← str_data a, h, str_data]

end Go.Proofs.YtebglkpejdoggaaGreat.V
