/-
  CodecBack: what was laid is read as it was, whatever stands ahead of it and behind. No condition.
-/
import Derived.Test.YtebglkpejdoggaaGreatRows
import Derived.Test.YtebglkpejdoggaaGreatP10Arg
import Derived.Test.YtebglkpejdoggaaGreatKLaw
import Derived.SizedLaws
import Derived.BigQuiet
import Derived.Deep.RegionHeld3
import Derived.Deep.DeepCutAuto
namespace Go.Proofs.YtebglkpejdoggaaGreat.codecBack
open Go.ChangeShapes Go.WideShapes Go.ChangeAt Go.RowKit Go.Proofs
open Go.ChangeMaps (open_string shut_string)
open Go.Proofs.YtebglkpejdoggaaGreat.C10 Go.Proofs.YtebglkpejdoggaaGreat.P8 Go.Proofs.YtebglkpejdoggaaGreat.K Go.Proofs.YtebglkpejdoggaaGreat.B
set_option linter.unusedVariables false
set_option maxRecDepth 100000

theorem own : ownKnob Tryz.prog.godebug = none := by kernel_rfl
theorem laidOut : laidOutB Tryz.prog = true := by kernel_rfl

theorem ev_len {x : Ev} (h : evP x = true) : (layEv x).length ≤ 100 := by
  unfold evP at h
  simp only [Bool.and_eq_true, inn_iff] at h
  obtain ⟨a, b⟩ := vals_facts h.2
  unfold layEv
  rw [List.length_append]
  have h1 := num_len x.pos ⟨by omega, by omega⟩
  have h2 := listL_len x.vars ⟨a, by omega⟩
  omega
theorem evs_len {l : List Ev} (h : evsP l = true) : (layEvs l).length ≤ 1000 := by
  obtain ⟨a, b⟩ := evs_facts h
  unfold layEvs
  rw [List.length_append]
  have h1 := num_len (l.length : Int) ⟨by omega, by omega⟩
  have h2 := flat_len layEv 100 l fun y hy => ev_len (a y hy)
  omega
theorem head_len {c q : Int} {s : List UInt8} (h : headP c q s = true) : (numsL [c, q]).length ≤ 20 ∧ (textL s).length ≤ 42 := by
  obtain ⟨a, b, d⟩ := head_facts h
  have h1 := numsL_len [c, q] (by intro x hx; simp at hx; rcases hx with rfl | rfl <;> assumption)
  have h2 := textL_len s (by unfold TxWf; omega)
  simp only [List.length_cons, List.length_nil] at h1
  omega
theorem cmd_len {c : Cm} (h : cmdP c = true) : (layCmd c).length ≤ 100000 := by
  unfold cmdP at h
  simp only [Bool.and_eq_true, inn_iff] at h
  obtain ⟨a, b⟩ := head_len h.1
  obtain ⟨d, e⟩ := vals_facts h.2.2.1
  unfold layCmd
  simp only [List.length_append]
  have h1 := num_len c.rule ⟨by omega, by omega⟩
  have h2 := num_len c.expect ⟨by omega, by omega⟩
  have h3 := listL_len c.args ⟨d, by omega⟩
  omega
theorem rec_len {c : Rc} (h : recP c = true) : (layRec c).length ≤ 100000 := by
  unfold recP at h
  simp only [Bool.and_eq_true, inn_iff] at h
  obtain ⟨a, b⟩ := head_len h.1
  unfold layRec
  simp only [List.length_append]
  have h1 := num_len c.code ⟨by omega, by omega⟩
  have h3 := evs_len h.2.2.1
  omega
theorem items_len {l : List It} (h : itemsP l = true) : (layItems l).length ≤ 100000 := by
  unfold itemsP at h
  rw [Bool.and_eq_true, decide_eq_true_eq] at h
  unfold layItems
  rw [List.length_append]
  have h1 := num_len (l.length : Int) ⟨by omega, by omega⟩
  have h2 := flat_len layIt 200 l fun y hy => by
    obtain ⟨a, b⟩ := itemsGo_facts l l 0 h.1 y hy
    unfold stP at b
    simp only [Bool.and_eq_true, inn_iff] at b
    obtain ⟨d, e⟩ := vals_facts b.2.2
    unfold layIt
    simp only [List.length_append]
    have g1 := textL_len y.stream (by have := stream_len a; unfold TxWf; omega)
    have g2 := numsL_len [y.st.pos, y.st.ver] (by intro x hx; simp at hx; rcases hx with rfl | rfl; exact ⟨by omega, by omega⟩; exact ⟨by omega, by omega⟩)
    have g3 := listL_len y.st.vars ⟨d, by omega⟩
    have g4 := stream_len a
    simp only [List.length_cons, List.length_nil] at g2
    omega
  omega
theorem vds_len {l : List Vd} (h : vdsP l = true) : (layVds l).length ≤ 100000 := by
  have h0 := h
  unfold vdsP at h
  rw [Bool.and_eq_true, decide_eq_true_eq] at h
  unfold layVds
  rw [List.length_append]
  have h1 := num_len (l.length : Int) ⟨by omega, by omega⟩
  have h2 := flat_len layVd 20 l fun y hy => layVd_len y (vdsGo_facts l l 0 h.1 y hy)
  omega
theorem filt_len {l : List (List UInt8)} (h : filtP l = true) : (layFilt l).length ≤ 100000 := by
  unfold filtP at h
  rw [Bool.and_eq_true, decide_eq_true_eq, List.all_eq_true] at h
  unfold layFilt
  rw [List.length_append]
  have h1 := num_len (l.length : Int) ⟨by omega, by omega⟩
  have h2 := flat_len textL 42 l fun y hy => by
    have := pat_len (h.2 y hy)
    have g := textL_len y (by unfold TxWf; omega)
    omega
  omega
theorem putE_false : putE false = 2 := rfl
theorem putE_true : putE true = 0 := rfl
theorem putS_true (t : List UInt8) : putS true t = t := rfl
theorem cm_shape {w : World} {u : Value} {l : List Int} {n : Nat} (h : SlN w u l ∧ l.length = n) : ∃ a c, u = .slice a n c := by
  obtain ⟨a, c, rfl, -⟩ := h.1.open
  exact ⟨a, c, by rw [h.2]⟩
theorem rc_shape {w : World} {u : Value} {l : List Ev} {n : Nat} (h : EvsIs w u l ∧ l.length = n) : ∃ a c, u = .slice a n c := by
  obtain ⟨a, c, rfl, -⟩ := h.1.open
  exact ⟨a, c, by rw [h.2]⟩

set_option maxHeartbeats 64000000 in
theorem walk (L : Low) (F : Cod) (A B : List UInt8) (c : Cm) (r : Rc) (l : List It) (v : List Vd) (p : List (List UInt8)) (uu uv ux uy uz : Value) (w : World) (hlA : A.length ≤ 140737488355328) (hlB : B.length ≤ 140737488355328) (hu : SlN w uu c.args) (hwc : CmWf c) (hv : EvsIs w uv r.events) (hwr : RcWf r) (hx : ItsIs w ux l) (hwl : ItsWf l) (hy : VdsIs w uy v) (hwv : VdsWf v) (hz : SlT w uz p) (hwp : FlWf p) :
    Calls Tryz.prog 4 #[.agg #[.string (str A), .string (str B), .int .i64 c.client, .int .i64 c.seq, .string (str c.stream), .int .i64 c.rule, uu, .int .i64 c.expect, .int .i64 r.client, .int .i64 r.seq, .string (str r.stream), .int .i64 r.code, uv, ux, uy, uz]] w fun e w' => e = .returned (.bool true) ∧ Below w.heap.size w w' := by
  obtain ⟨n0, n1, s, n3, ar, n5⟩ := c
  obtain ⟨m0, m1, t, m3, ev⟩ := r
  have hw5 := hwc.2.2.2.2.1
  have hv5 := hwr.2.2.2.2
  dsimp only at hu hv hw5 hv5 ⊢
  obtain ⟨aa, ca, rfl, -⟩ := id hu.open
  obtain ⟨av, cv, rfl, -⟩ := id hv.open
  obtain ⟨ax, cx, rfl, -⟩ := id hx.open
  obtain ⟨ay, cy, rfl, -⟩ := id hy.open
  obtain ⟨az, cz, rfl, -⟩ := id hz.open
  obtain ⟨NA, hNA⟩ : ∃ N, ar.length = N := ⟨_, rfl⟩
  obtain ⟨NV, hNV⟩ : ∃ N, ev.length = N := ⟨_, rfl⟩
  obtain ⟨NX, hNX⟩ : ∃ N, l.length = N := ⟨_, rfl⟩
  obtain ⟨NY, hNY⟩ : ∃ N, v.length = N := ⟨_, rfl⟩
  obtain ⟨NZ, hNZ⟩ : ∃ N, p.length = N := ⟨_, rfl⟩
  rw [hNA] at hu
  rw [hNV] at hv
  rw [hNX] at hx
  rw [hNY] at hy
  rw [hNZ] at hz
  rw [hNA, hNV, hNX, hNY, hNZ]
  obtain ⟨a0, hA⟩ : ∃ n, A.length = n := ⟨_, rfl⟩
  obtain ⟨b0, hBl⟩ : ∃ n, B.length = n := ⟨_, rfl⟩
  have hsA : (str A).size = a0 := by rw [str_size, hA]
  have hsB : (str B).size = b0 := by rw [str_size, hBl]
  have AW := fun W => awake10_any F W
  obtain ⟨W1, hW1⟩ : ∃ W1, w.alloc (.cells #[.string (str A), .string (str B), .int .i64 n0, .int .i64 n1, .string (str s), .int .i64 n3, .slice aa NA ca, .int .i64 n5, .int .i64 m0, .int .i64 m1, .string (str t), .int .i64 m3, .slice av NV cv, .slice ax NX cx, .slice ay NY cy, .slice az NZ cz] 46) = W1 := ⟨_, rfl⟩
  obtain ⟨h, hh⟩ : ∃ g, w.heap.size = g := ⟨_, rfl⟩
  have hB : Below w.heap.size w W1 := by rw [← hW1]; exact below_alloc _ _
  have k0 : W1.cell? ⟨h, 0, none⟩ = some (.string (str A)) := by rw [← hW1, ← hh]; exact alloc_cell w [_, _, _, _, _, _, _, _, _, _, _, _, _, _, _, _] _ 0 _ rfl
  have k1 : W1.cell? ⟨h, 1, none⟩ = some (.string (str B)) := by rw [← hW1, ← hh]; exact alloc_cell w [_, _, _, _, _, _, _, _, _, _, _, _, _, _, _, _] _ 1 _ rfl
  have k2 : W1.cell? ⟨h, 2, none⟩ = some (.int .i64 n0) := by rw [← hW1, ← hh]; exact alloc_cell w [_, _, _, _, _, _, _, _, _, _, _, _, _, _, _, _] _ 2 _ rfl
  have k3 : W1.cell? ⟨h, 3, none⟩ = some (.int .i64 n1) := by rw [← hW1, ← hh]; exact alloc_cell w [_, _, _, _, _, _, _, _, _, _, _, _, _, _, _, _] _ 3 _ rfl
  have k4 : W1.cell? ⟨h, 4, none⟩ = some (.string (str s)) := by rw [← hW1, ← hh]; exact alloc_cell w [_, _, _, _, _, _, _, _, _, _, _, _, _, _, _, _] _ 4 _ rfl
  have k5 : W1.cell? ⟨h, 5, none⟩ = some (.int .i64 n3) := by rw [← hW1, ← hh]; exact alloc_cell w [_, _, _, _, _, _, _, _, _, _, _, _, _, _, _, _] _ 5 _ rfl
  have k6 : W1.cell? ⟨h, 6, none⟩ = some (.slice aa NA ca) := by rw [← hW1, ← hh]; exact alloc_cell w [_, _, _, _, _, _, _, _, _, _, _, _, _, _, _, _] _ 6 _ rfl
  have k7 : W1.cell? ⟨h, 7, none⟩ = some (.int .i64 n5) := by rw [← hW1, ← hh]; exact alloc_cell w [_, _, _, _, _, _, _, _, _, _, _, _, _, _, _, _] _ 7 _ rfl
  have k8 : W1.cell? ⟨h, 8, none⟩ = some (.int .i64 m0) := by rw [← hW1, ← hh]; exact alloc_cell w [_, _, _, _, _, _, _, _, _, _, _, _, _, _, _, _] _ 8 _ rfl
  have k9 : W1.cell? ⟨h, 9, none⟩ = some (.int .i64 m1) := by rw [← hW1, ← hh]; exact alloc_cell w [_, _, _, _, _, _, _, _, _, _, _, _, _, _, _, _] _ 9 _ rfl
  have k10 : W1.cell? ⟨h, 10, none⟩ = some (.string (str t)) := by rw [← hW1, ← hh]; exact alloc_cell w [_, _, _, _, _, _, _, _, _, _, _, _, _, _, _, _] _ 10 _ rfl
  have k11 : W1.cell? ⟨h, 11, none⟩ = some (.int .i64 m3) := by rw [← hW1, ← hh]; exact alloc_cell w [_, _, _, _, _, _, _, _, _, _, _, _, _, _, _, _] _ 11 _ rfl
  have k12 : W1.cell? ⟨h, 12, none⟩ = some (.slice av NV cv) := by rw [← hW1, ← hh]; exact alloc_cell w [_, _, _, _, _, _, _, _, _, _, _, _, _, _, _, _] _ 12 _ rfl
  have k13 : W1.cell? ⟨h, 13, none⟩ = some (.slice ax NX cx) := by rw [← hW1, ← hh]; exact alloc_cell w [_, _, _, _, _, _, _, _, _, _, _, _, _, _, _, _] _ 13 _ rfl
  have k14 : W1.cell? ⟨h, 14, none⟩ = some (.slice ay NY cy) := by rw [← hW1, ← hh]; exact alloc_cell w [_, _, _, _, _, _, _, _, _, _, _, _, _, _, _, _] _ 14 _ rfl
  have k15 : W1.cell? ⟨h, 15, none⟩ = some (.slice az NZ cz) := by rw [← hW1, ← hh]; exact alloc_cell w [_, _, _, _, _, _, _, _, _, _, _, _, _, _, _, _] _ 15 _ rfl
  have HKP := Lib.hid (fun (W : World) (hb : Below W1.heap.size W1 W) => (⟨kept_cell hb k0, kept_cell hb k1, kept_cell hb k2, kept_cell hb k3, kept_cell hb k4, kept_cell hb k5, kept_cell hb k6, kept_cell hb k7, kept_cell hb k8, kept_cell hb k9, kept_cell hb k10, kept_cell hb k11, kept_cell hb k12, kept_cell hb k13, kept_cell hb k14, kept_cell hb k15, hB.trans (hb.mono hB.size)⟩ : (W.cell? ⟨h, 0, none⟩ = some (Value.string (str A)) ∧ W.cell? ⟨h, 1, none⟩ = some (Value.string (str B)) ∧ W.cell? ⟨h, 2, none⟩ = some (Value.int .i64 n0) ∧ W.cell? ⟨h, 3, none⟩ = some (Value.int .i64 n1) ∧ W.cell? ⟨h, 4, none⟩ = some (Value.string (str s)) ∧ W.cell? ⟨h, 5, none⟩ = some (Value.int .i64 n3) ∧ W.cell? ⟨h, 6, none⟩ = some (Value.slice aa NA ca) ∧ W.cell? ⟨h, 7, none⟩ = some (Value.int .i64 n5) ∧ W.cell? ⟨h, 8, none⟩ = some (Value.int .i64 m0) ∧ W.cell? ⟨h, 9, none⟩ = some (Value.int .i64 m1) ∧ W.cell? ⟨h, 10, none⟩ = some (Value.string (str t)) ∧ W.cell? ⟨h, 11, none⟩ = some (Value.int .i64 m3) ∧ W.cell? ⟨h, 12, none⟩ = some (Value.slice av NV cv) ∧ W.cell? ⟨h, 13, none⟩ = some (Value.slice ax NX cx) ∧ W.cell? ⟨h, 14, none⟩ = some (Value.slice ay NY cy) ∧ W.cell? ⟨h, 15, none⟩ = some (Value.slice az NZ cz) ∧ Below w.heap.size w W)))
  by_cases g1 : 5000 < a0
  · have i1 : (5000 : Int) < (a0 : Int) := by omega
    go_enter Tryz.func4, Tryz.ntmps4
    go_wp2_with fail
    refine (AW _).mono ?_
    rintro _ w3 ⟨rfl, hb3⟩
    go_wp2_with fail
    go_ret
    exact ⟨rfl, hB.trans (hb3.mono hB.size)⟩
  · have i1 : ¬ (5000 : Int) < (a0 : Int) := by omega
    by_cases g2 : 5000 < b0
    · have i2 : (5000 : Int) < (b0 : Int) := by omega
      go_enter Tryz.func4, Tryz.ntmps4
      go_wp2_with fail
      refine (AW _).mono ?_
      rintro _ w3 ⟨rfl, hb3⟩
      go_wp2_with fail
      go_ret
      exact ⟨rfl, hB.trans (hb3.mono hB.size)⟩
    · have i2 : ¬ (5000 : Int) < (b0 : Int) := by omega
      have h8 : ar.length ≤ 4611686018427387904 := by have := hw5.2; omega
      have h9 : ∀ e ∈ ev, e.vars.length ≤ 4611686018427387904 := fun e he => by have := (hv5.1 e he).2.2; omega
      have h10 : ∀ e ∈ l, e.st.vars.length ≤ 4611686018427387904 := fun e he => by have := (hwl.1 e he).2.2.2.2; omega
      have P1 := fun W (hb : Below w.heap.size w W) => F.putCmd ⟨n0, n1, s, n3, ar, n5⟩ _ W (hu.below hb) hwc
      have P2 := fun W (hb : Below w.heap.size w W) => F.putRec ⟨m0, m1, t, m3, ev⟩ _ W (hv.below hb) hwr
      have P3 := fun W (hb : Below w.heap.size w W) => F.putItems l _ W (hx.below hb) hwl
      have P4 := fun W (hb : Below w.heap.size w W) => F.putVds v _ W (hy.below hb) hwv
      have P5 := fun W (hb : Below w.heap.size w W) => F.putFilt p _ W (hz.below hb) hwp
      have S1 := fun W u (hb : Below W1.heap.size W1 W) (h : SlN W u ar) => sameCmd_any L ⟨n0, n1, s, n3, ar, n5⟩ u _ W h (hu.below (hB.trans (hb.mono hB.size))) h8
      have S2 := fun W u (hb : Below W1.heap.size W1 W) (h : EvsIs W u ev) => sameRec_any L ⟨m0, m1, t, m3, ev⟩ u _ W h (hv.below (hB.trans (hb.mono hB.size))) hv5.2 h9
      have S3 := fun W u (hb : Below W1.heap.size W1 W) (h : ItsIs W u l) => sameItems_any L l u _ W h (hx.below (hB.trans (hb.mono hB.size))) hwl.2 h10
      have S4 := fun W u (hb : Below W1.heap.size W1 W) (h : VdsIs W u v) => sameVds_any L v u _ W h (hy.below (hB.trans (hb.mono hB.size))) hwv.2
      have S5 := fun W u (hb : Below W1.heap.size W1 W) (h : SlT W u p) => L.same u _ p W (by have := hwp.2; omega) h (hz.below (hB.trans (hb.mono hB.size)))
      dsimp only at P1 P2 S1 S2
      have R1 := fun (hok : cmdP ⟨n0, n1, s, n3, ar, n5⟩ = true) => (show ∃ NT : Nat, (layCmd ⟨n0, n1, s, n3, ar, n5⟩).length = NT ∧ (∀ W, (Op.stringOp .add (str A) (str (layCmd ⟨n0, n1, s, n3, ar, n5⟩))).run Tryz.prog W = .ok (.string (str (A ++ layCmd ⟨n0, n1, s, n3, ar, n5⟩))) W) ∧ (∀ W, (Op.stringOp .add (str (A ++ layCmd ⟨n0, n1, s, n3, ar, n5⟩)) (str B)).run Tryz.prog W = .ok (.string (str (A ++ (layCmd ⟨n0, n1, s, n3, ar, n5⟩ ++ B)))) W) ∧ NT ≤ 100000 ∧ (str (layCmd ⟨n0, n1, s, n3, ar, n5⟩)).size = NT ∧ ∀ W, Calls Tryz.prog 18 #[.string (str (A ++ (layCmd ⟨n0, n1, s, n3, ar, n5⟩ ++ B))), .int .i64 (a0 : Int)] W fun e w' => ∃ u, e = .returned (.tuple #[.agg #[.int .i64 n0, .int .i64 n1, .string (str s), .int .i64 n3, u, .int .i64 n5], .int .i64 ((a0 : Int) + (NT : Int)), .int .i64 0]) ∧ (SlN w' u ar ∧ ar.length = NA) ∧ Below W.heap.size W w' from by
        have hlen := cmd_len hok
        have hbk := cmd_back _ hok A B
        rw [hA] at hbk
        refine ⟨_, rfl, add_str _ _ (by omega), fun W => by rw [add_str _ _ (by rw [List.length_append]; omega), List.append_assoc], hlen, str_size _, fun W => ?_⟩
        refine (F.readCmd (A ++ (layCmd ⟨n0, n1, s, n3, ar, n5⟩ ++ B)) (a0 : Int) W (by rw [List.length_append, List.length_append]; omega) ⟨by omega, by omega⟩).mono fun e w' ⟨c', u', q', er, he, hu', hb', hm⟩ => ?_
        rw [hbk] at hm
        obtain ⟨rfl, rfl, rfl⟩ := hm
        exact ⟨u', he, ⟨hu', hNA⟩, hb'⟩)
      have R2 := fun (hok : recP ⟨m0, m1, t, m3, ev⟩ = true) => (show ∃ NT : Nat, (layRec ⟨m0, m1, t, m3, ev⟩).length = NT ∧ (∀ W, (Op.stringOp .add (str A) (str (layRec ⟨m0, m1, t, m3, ev⟩))).run Tryz.prog W = .ok (.string (str (A ++ layRec ⟨m0, m1, t, m3, ev⟩))) W) ∧ (∀ W, (Op.stringOp .add (str (A ++ layRec ⟨m0, m1, t, m3, ev⟩)) (str B)).run Tryz.prog W = .ok (.string (str (A ++ (layRec ⟨m0, m1, t, m3, ev⟩ ++ B)))) W) ∧ NT ≤ 100000 ∧ (str (layRec ⟨m0, m1, t, m3, ev⟩)).size = NT ∧ ∀ W, Calls Tryz.prog 21 #[.string (str (A ++ (layRec ⟨m0, m1, t, m3, ev⟩ ++ B))), .int .i64 (a0 : Int)] W fun e w' => ∃ u, e = .returned (.tuple #[.agg #[.int .i64 m0, .int .i64 m1, .string (str t), .int .i64 m3, u], .int .i64 ((a0 : Int) + (NT : Int)), .int .i64 0]) ∧ (EvsIs w' u ev ∧ ev.length = NV) ∧ Below W.heap.size W w' from by
        have hlen := rec_len hok
        have hbk := rec_back _ hok A B
        rw [hA] at hbk
        refine ⟨_, rfl, add_str _ _ (by omega), fun W => by rw [add_str _ _ (by rw [List.length_append]; omega), List.append_assoc], hlen, str_size _, fun W => ?_⟩
        refine (F.readRec (A ++ (layRec ⟨m0, m1, t, m3, ev⟩ ++ B)) (a0 : Int) W (by rw [List.length_append, List.length_append]; omega) ⟨by omega, by omega⟩).mono fun e w' ⟨c', u', q', er, he, hu', hb', hm⟩ => ?_
        rw [hbk] at hm
        obtain ⟨rfl, rfl, rfl⟩ := hm
        exact ⟨u', he, ⟨hu', hNV⟩, hb'⟩)
      have R3 := fun (hok : itemsP l = true) => (show ∃ NT : Nat, (layItems l).length = NT ∧ (∀ W, (Op.stringOp .add (str A) (str (layItems l))).run Tryz.prog W = .ok (.string (str (A ++ layItems l))) W) ∧ (∀ W, (Op.stringOp .add (str (A ++ layItems l)) (str B)).run Tryz.prog W = .ok (.string (str (A ++ (layItems l ++ B)))) W) ∧ NT ≤ 100000 ∧ (str (layItems l)).size = NT ∧ ∀ W, Calls Tryz.prog 23 #[.string (str (A ++ (layItems l ++ B))), .int .i64 (a0 : Int)] W fun e w' => ∃ u, e = .returned (.tuple #[u, .int .i64 ((a0 : Int) + (NT : Int)), .int .i64 0]) ∧ ItsIs w' u l ∧ Below W.heap.size W w' from by
        have hlen := items_len hok
        have hbk := items_back _ hok A B
        rw [hA] at hbk
        refine ⟨_, rfl, add_str _ _ (by omega), fun W => by rw [add_str _ _ (by rw [List.length_append]; omega), List.append_assoc], hlen, str_size _, fun W => ?_⟩
        refine (F.readItems (A ++ (layItems l ++ B)) (a0 : Int) W (by rw [List.length_append, List.length_append]; omega) ⟨by omega, by omega⟩).mono fun e w' ⟨c', u', q', er, he, hu', hb', hm⟩ => ?_
        rw [hbk] at hm
        obtain ⟨rfl, rfl, rfl⟩ := hm
        exact ⟨u', he, hu', hb'⟩)
      have R4 := fun (hok : vdsP v = true) => (show ∃ NT : Nat, (layVds v).length = NT ∧ (∀ W, (Op.stringOp .add (str A) (str (layVds v))).run Tryz.prog W = .ok (.string (str (A ++ layVds v))) W) ∧ (∀ W, (Op.stringOp .add (str (A ++ layVds v)) (str B)).run Tryz.prog W = .ok (.string (str (A ++ (layVds v ++ B)))) W) ∧ NT ≤ 100000 ∧ (str (layVds v)).size = NT ∧ ∀ W, Calls Tryz.prog 25 #[.string (str (A ++ (layVds v ++ B))), .int .i64 (a0 : Int)] W fun e w' => ∃ u, e = .returned (.tuple #[u, .int .i64 ((a0 : Int) + (NT : Int)), .int .i64 0]) ∧ VdsIs w' u v ∧ Below W.heap.size W w' from by
        have hlen := vds_len hok
        have hbk := vds_back _ hok A B
        rw [hA] at hbk
        refine ⟨_, rfl, add_str _ _ (by omega), fun W => by rw [add_str _ _ (by rw [List.length_append]; omega), List.append_assoc], hlen, str_size _, fun W => ?_⟩
        refine (F.readVds (A ++ (layVds v ++ B)) (a0 : Int) W (by rw [List.length_append, List.length_append]; omega) ⟨by omega, by omega⟩).mono fun e w' ⟨c', u', q', er, he, hu', hb', hm⟩ => ?_
        rw [hbk] at hm
        obtain ⟨rfl, rfl, rfl⟩ := hm
        exact ⟨u', he, hu', hb'⟩)
      have R5 := fun (hok : filtP p = true) => (show ∃ NT : Nat, (layFilt p).length = NT ∧ (∀ W, (Op.stringOp .add (str A) (str (layFilt p))).run Tryz.prog W = .ok (.string (str (A ++ layFilt p))) W) ∧ (∀ W, (Op.stringOp .add (str (A ++ layFilt p)) (str B)).run Tryz.prog W = .ok (.string (str (A ++ (layFilt p ++ B)))) W) ∧ NT ≤ 100000 ∧ (str (layFilt p)).size = NT ∧ ∀ W, Calls Tryz.prog 27 #[.string (str (A ++ (layFilt p ++ B))), .int .i64 (a0 : Int)] W fun e w' => ∃ u, e = .returned (.tuple #[u, .int .i64 ((a0 : Int) + (NT : Int)), .int .i64 0]) ∧ SlT w' u p ∧ Below W.heap.size W w' from by
        have hlen := filt_len hok
        have hbk := filt_back _ hok A B
        rw [hA] at hbk
        refine ⟨_, rfl, add_str _ _ (by omega), fun W => by rw [add_str _ _ (by rw [List.length_append]; omega), List.append_assoc], hlen, str_size _, fun W => ?_⟩
        refine (F.readFilt (A ++ (layFilt p ++ B)) (a0 : Int) W (by rw [List.length_append, List.length_append]; omega) ⟨by omega, by omega⟩).mono fun e w' ⟨c', u', q', er, he, hu', hb', hm⟩ => ?_
        rw [hbk] at hm
        obtain ⟨rfl, rfl, rfl⟩ := hm
        exact ⟨u', he, hu', hb'⟩)
      generalize cmdP ⟨n0, n1, s, n3, ar, n5⟩ = b1 at *
      generalize hz1 : layCmd ⟨n0, n1, s, n3, ar, n5⟩ = t1 at *
      clear hz1
      generalize recP ⟨m0, m1, t, m3, ev⟩ = b2 at *
      generalize hz2 : layRec ⟨m0, m1, t, m3, ev⟩ = t2 at *
      clear hz2
      generalize itemsP l = b3 at *
      generalize hz3 : layItems l = t3 at *
      clear hz3
      generalize vdsP v = b4 at *
      generalize hz4 : layVds v = t4 at *
      clear hz4
      generalize filtP p = b5 at *
      generalize hz5 : layFilt p = t5 at *
      clear hz5
      have RR1 := Lib.hid R1
      have SS1 := Lib.hid S1
      have PP1 := Lib.hid P1
      clear R1 S1 P1
      have RR2 := Lib.hid R2
      have SS2 := Lib.hid S2
      have PP2 := Lib.hid P2
      clear R2 S2 P2
      have RR3 := Lib.hid R3
      have SS3 := Lib.hid S3
      have PP3 := Lib.hid P3
      clear R3 S3 P3
      have RR4 := Lib.hid R4
      have SS4 := Lib.hid S4
      have PP4 := Lib.hid P4
      clear R4 S4 P4
      have RR5 := Lib.hid R5
      have SS5 := Lib.hid S5
      have PP5 := Lib.hid P5
      clear R5 S5 P5
      clear h8 h9 h10 hw5 hv5 hwc hwr hwl hwv hwp hu hv hx hy hz
      have h1 := Below.refl W1.heap.size W1
      have hW0 := Lib.hid hW1
      go_enter Tryz.func4, Tryz.ntmps4
      go_wp2_with fail
      refine (AW _).mono ?_
      rintro _ w3 ⟨rfl, hb⟩
      have h3 := h1.trans (hb.mono h1.size)
      clear hb
      clear k0 k1 k2 k3 k4 k5 k6 k7 k8 k9 k10 k11 k12 k13 k14 k15 hB AW hW1
      obtain ⟨k0, k1, k2, k3, k4, k5, k6, k7, k8, k9, k10, k11, k12, k13, k14, k15, hB⟩ := HKP.out _ h3
      go_wp2_with fail
      with_reducible refine (PP1.out _ hB).mono ?_
      rintro _ w10 ⟨rfl, hb⟩
      have h10 := h3.trans (hb.mono h3.size)
      clear hb
      clear k0 k1 k2 k3 k4 k5 k6 k7 k8 k9 k10 k11 k12 k13 k14 k15 hB
      obtain ⟨k0, k1, k2, k3, k4, k5, k6, k7, k8, k9, k10, k11, k12, k13, k14, k15, hB⟩ := HKP.out _ h10
      cases hbb0 : b1 with
      | false =>
        simp only [putE_false]
        have d2 : ((2 : Int) == 0) = false := by decide
        go_wp2_with fail
        with_reducible refine (PP2.out _ hB).mono ?_
        rintro _ w11 ⟨rfl, hb⟩
        have h11 := h10.trans (hb.mono h10.size)
        clear hb
        clear k0 k1 k2 k3 k4 k5 k6 k7 k8 k9 k10 k11 k12 k13 k14 k15 hB
        obtain ⟨k0, k1, k2, k3, k4, k5, k6, k7, k8, k9, k10, k11, k12, k13, k14, k15, hB⟩ := HKP.out _ h11
        cases hbb1 : b2 with
        | false =>
          simp only [putE_false]
          have d2 : ((2 : Int) == 0) = false := by decide
          go_wp2_with fail
          with_reducible refine (PP3.out _ hB).mono ?_
          rintro _ w12 ⟨rfl, hb⟩
          have h12 := h11.trans (hb.mono h11.size)
          clear hb
          clear k0 k1 k2 k3 k4 k5 k6 k7 k8 k9 k10 k11 k12 k13 k14 k15 hB
          obtain ⟨k0, k1, k2, k3, k4, k5, k6, k7, k8, k9, k10, k11, k12, k13, k14, k15, hB⟩ := HKP.out _ h12
          cases hbb2 : b3 with
          | false =>
            simp only [putE_false]
            have d2 : ((2 : Int) == 0) = false := by decide
            go_wp2_with fail
            with_reducible refine (PP4.out _ hB).mono ?_
            rintro _ w13 ⟨rfl, hb⟩
            have h13 := h12.trans (hb.mono h12.size)
            clear hb
            clear k0 k1 k2 k3 k4 k5 k6 k7 k8 k9 k10 k11 k12 k13 k14 k15 hB
            obtain ⟨k0, k1, k2, k3, k4, k5, k6, k7, k8, k9, k10, k11, k12, k13, k14, k15, hB⟩ := HKP.out _ h13
            cases hbb3 : b4 with
            | false =>
              simp only [putE_false]
              have d2 : ((2 : Int) == 0) = false := by decide
              go_wp2_with fail
              with_reducible refine (PP5.out _ hB).mono ?_
              rintro _ w14 ⟨rfl, hb⟩
              have h14 := h13.trans (hb.mono h13.size)
              clear hb
              clear k0 k1 k2 k3 k4 k5 k6 k7 k8 k9 k10 k11 k12 k13 k14 k15 hB
              obtain ⟨k0, k1, k2, k3, k4, k5, k6, k7, k8, k9, k10, k11, k12, k13, k14, k15, hB⟩ := HKP.out _ h14
              cases hbb4 : b5 with
              | false =>
                simp only [putE_false]
                have d2 : ((2 : Int) == 0) = false := by decide
                go_wp2_with fail
                go_ret
                exact ⟨rfl, hB⟩
              | true =>
                obtain ⟨NT, hNT, e1, e2, hl, hq, hrd⟩ := RR5.out hbb4
                simp only [putE_true, putS_true]
                have hq1 : IntKind.i64.wrap ((a0 : Int) + (NT : Int) - (a0 : Int)) = (NT : Int) := by rw [show (a0 : Int) + (NT : Int) - (a0 : Int) = (NT : Int) by omega]; exact IntWalk.i64_in _ (by omega)
                go_wp2_with fail
                with_reducible refine (hrd _).mono ?_
                rintro _ w15 ⟨u, rfl, hu, hb⟩
                have h15 := h14.trans (hb.mono h14.size)
                clear hb
                clear k0 k1 k2 k3 k4 k5 k6 k7 k8 k9 k10 k11 k12 k13 k14 k15 hB
                obtain ⟨k0, k1, k2, k3, k4, k5, k6, k7, k8, k9, k10, k11, k12, k13, k14, k15, hB⟩ := HKP.out _ h15
                have hsm := SS5.out _ _ h15 hu
                go_wp2_with fail
                with_reducible refine hsm.mono ?_
                rintro _ w16 ⟨rfl, hb⟩
                have h16 := h15.trans (hb.mono h15.size)
                clear hb
                clear k0 k1 k2 k3 k4 k5 k6 k7 k8 k9 k10 k11 k12 k13 k14 k15 hB hsm hrd e1 e2
                obtain ⟨k0, k1, k2, k3, k4, k5, k6, k7, k8, k9, k10, k11, k12, k13, k14, k15, hB⟩ := HKP.out _ h16
                go_wp2_with fail
                go_ret
                exact ⟨rfl, hB⟩
            | true =>
              obtain ⟨NT, hNT, e1, e2, hl, hq, hrd⟩ := RR4.out hbb3
              simp only [putE_true, putS_true]
              have hq1 : IntKind.i64.wrap ((a0 : Int) + (NT : Int) - (a0 : Int)) = (NT : Int) := by rw [show (a0 : Int) + (NT : Int) - (a0 : Int) = (NT : Int) by omega]; exact IntWalk.i64_in _ (by omega)
              go_wp2_with fail
              with_reducible refine (hrd _).mono ?_
              rintro _ w17 ⟨u, rfl, hu, hb⟩
              have h17 := h13.trans (hb.mono h13.size)
              clear hb
              clear k0 k1 k2 k3 k4 k5 k6 k7 k8 k9 k10 k11 k12 k13 k14 k15 hB
              obtain ⟨k0, k1, k2, k3, k4, k5, k6, k7, k8, k9, k10, k11, k12, k13, k14, k15, hB⟩ := HKP.out _ h17
              have hsm := SS4.out _ _ h17 hu
              go_wp2_with fail
              with_reducible refine hsm.mono ?_
              rintro _ w18 ⟨rfl, hb⟩
              have h18 := h17.trans (hb.mono h17.size)
              clear hb
              clear k0 k1 k2 k3 k4 k5 k6 k7 k8 k9 k10 k11 k12 k13 k14 k15 hB hsm hrd e1 e2
              obtain ⟨k0, k1, k2, k3, k4, k5, k6, k7, k8, k9, k10, k11, k12, k13, k14, k15, hB⟩ := HKP.out _ h18
              go_wp2_with fail
              with_reducible refine (PP5.out _ hB).mono ?_
              rintro _ w19 ⟨rfl, hb⟩
              have h19 := h18.trans (hb.mono h18.size)
              clear hb
              clear k0 k1 k2 k3 k4 k5 k6 k7 k8 k9 k10 k11 k12 k13 k14 k15 hB
              obtain ⟨k0, k1, k2, k3, k4, k5, k6, k7, k8, k9, k10, k11, k12, k13, k14, k15, hB⟩ := HKP.out _ h19
              cases hbb4 : b5 with
              | false =>
                simp only [putE_false]
                have d2 : ((2 : Int) == 0) = false := by decide
                go_wp2_with fail
                go_ret
                exact ⟨rfl, hB⟩
              | true =>
                obtain ⟨NT, hNT, e1, e2, hl, hq, hrd⟩ := RR5.out hbb4
                simp only [putE_true, putS_true]
                have hq1 : IntKind.i64.wrap ((a0 : Int) + (NT : Int) - (a0 : Int)) = (NT : Int) := by rw [show (a0 : Int) + (NT : Int) - (a0 : Int) = (NT : Int) by omega]; exact IntWalk.i64_in _ (by omega)
                go_wp2_with fail
                with_reducible refine (hrd _).mono ?_
                rintro _ w20 ⟨u, rfl, hu, hb⟩
                have h20 := h19.trans (hb.mono h19.size)
                clear hb
                clear k0 k1 k2 k3 k4 k5 k6 k7 k8 k9 k10 k11 k12 k13 k14 k15 hB
                obtain ⟨k0, k1, k2, k3, k4, k5, k6, k7, k8, k9, k10, k11, k12, k13, k14, k15, hB⟩ := HKP.out _ h20
                have hsm := SS5.out _ _ h20 hu
                go_wp2_with fail
                with_reducible refine hsm.mono ?_
                rintro _ w21 ⟨rfl, hb⟩
                have h21 := h20.trans (hb.mono h20.size)
                clear hb
                clear k0 k1 k2 k3 k4 k5 k6 k7 k8 k9 k10 k11 k12 k13 k14 k15 hB hsm hrd e1 e2
                obtain ⟨k0, k1, k2, k3, k4, k5, k6, k7, k8, k9, k10, k11, k12, k13, k14, k15, hB⟩ := HKP.out _ h21
                go_wp2_with fail
                go_ret
                exact ⟨rfl, hB⟩
          | true =>
            obtain ⟨NT, hNT, e1, e2, hl, hq, hrd⟩ := RR3.out hbb2
            simp only [putE_true, putS_true]
            have hq1 : IntKind.i64.wrap ((a0 : Int) + (NT : Int) - (a0 : Int)) = (NT : Int) := by rw [show (a0 : Int) + (NT : Int) - (a0 : Int) = (NT : Int) by omega]; exact IntWalk.i64_in _ (by omega)
            go_wp2_with fail
            with_reducible refine (hrd _).mono ?_
            rintro _ w22 ⟨u, rfl, hu, hb⟩
            have h22 := h12.trans (hb.mono h12.size)
            clear hb
            clear k0 k1 k2 k3 k4 k5 k6 k7 k8 k9 k10 k11 k12 k13 k14 k15 hB
            obtain ⟨k0, k1, k2, k3, k4, k5, k6, k7, k8, k9, k10, k11, k12, k13, k14, k15, hB⟩ := HKP.out _ h22
            have hsm := SS3.out _ _ h22 hu
            go_wp2_with fail
            with_reducible refine hsm.mono ?_
            rintro _ w23 ⟨rfl, hb⟩
            have h23 := h22.trans (hb.mono h22.size)
            clear hb
            clear k0 k1 k2 k3 k4 k5 k6 k7 k8 k9 k10 k11 k12 k13 k14 k15 hB hsm hrd e1 e2
            obtain ⟨k0, k1, k2, k3, k4, k5, k6, k7, k8, k9, k10, k11, k12, k13, k14, k15, hB⟩ := HKP.out _ h23
            go_wp2_with fail
            with_reducible refine (PP4.out _ hB).mono ?_
            rintro _ w24 ⟨rfl, hb⟩
            have h24 := h23.trans (hb.mono h23.size)
            clear hb
            clear k0 k1 k2 k3 k4 k5 k6 k7 k8 k9 k10 k11 k12 k13 k14 k15 hB
            obtain ⟨k0, k1, k2, k3, k4, k5, k6, k7, k8, k9, k10, k11, k12, k13, k14, k15, hB⟩ := HKP.out _ h24
            cases hbb3 : b4 with
            | false =>
              simp only [putE_false]
              have d2 : ((2 : Int) == 0) = false := by decide
              go_wp2_with fail
              with_reducible refine (PP5.out _ hB).mono ?_
              rintro _ w25 ⟨rfl, hb⟩
              have h25 := h24.trans (hb.mono h24.size)
              clear hb
              clear k0 k1 k2 k3 k4 k5 k6 k7 k8 k9 k10 k11 k12 k13 k14 k15 hB
              obtain ⟨k0, k1, k2, k3, k4, k5, k6, k7, k8, k9, k10, k11, k12, k13, k14, k15, hB⟩ := HKP.out _ h25
              cases hbb4 : b5 with
              | false =>
                simp only [putE_false]
                have d2 : ((2 : Int) == 0) = false := by decide
                go_wp2_with fail
                go_ret
                exact ⟨rfl, hB⟩
              | true =>
                obtain ⟨NT, hNT, e1, e2, hl, hq, hrd⟩ := RR5.out hbb4
                simp only [putE_true, putS_true]
                have hq1 : IntKind.i64.wrap ((a0 : Int) + (NT : Int) - (a0 : Int)) = (NT : Int) := by rw [show (a0 : Int) + (NT : Int) - (a0 : Int) = (NT : Int) by omega]; exact IntWalk.i64_in _ (by omega)
                go_wp2_with fail
                with_reducible refine (hrd _).mono ?_
                rintro _ w26 ⟨u, rfl, hu, hb⟩
                have h26 := h25.trans (hb.mono h25.size)
                clear hb
                clear k0 k1 k2 k3 k4 k5 k6 k7 k8 k9 k10 k11 k12 k13 k14 k15 hB
                obtain ⟨k0, k1, k2, k3, k4, k5, k6, k7, k8, k9, k10, k11, k12, k13, k14, k15, hB⟩ := HKP.out _ h26
                have hsm := SS5.out _ _ h26 hu
                go_wp2_with fail
                with_reducible refine hsm.mono ?_
                rintro _ w27 ⟨rfl, hb⟩
                have h27 := h26.trans (hb.mono h26.size)
                clear hb
                clear k0 k1 k2 k3 k4 k5 k6 k7 k8 k9 k10 k11 k12 k13 k14 k15 hB hsm hrd e1 e2
                obtain ⟨k0, k1, k2, k3, k4, k5, k6, k7, k8, k9, k10, k11, k12, k13, k14, k15, hB⟩ := HKP.out _ h27
                go_wp2_with fail
                go_ret
                exact ⟨rfl, hB⟩
            | true =>
              obtain ⟨NT, hNT, e1, e2, hl, hq, hrd⟩ := RR4.out hbb3
              simp only [putE_true, putS_true]
              have hq1 : IntKind.i64.wrap ((a0 : Int) + (NT : Int) - (a0 : Int)) = (NT : Int) := by rw [show (a0 : Int) + (NT : Int) - (a0 : Int) = (NT : Int) by omega]; exact IntWalk.i64_in _ (by omega)
              go_wp2_with fail
              with_reducible refine (hrd _).mono ?_
              rintro _ w28 ⟨u, rfl, hu, hb⟩
              have h28 := h24.trans (hb.mono h24.size)
              clear hb
              clear k0 k1 k2 k3 k4 k5 k6 k7 k8 k9 k10 k11 k12 k13 k14 k15 hB
              obtain ⟨k0, k1, k2, k3, k4, k5, k6, k7, k8, k9, k10, k11, k12, k13, k14, k15, hB⟩ := HKP.out _ h28
              have hsm := SS4.out _ _ h28 hu
              go_wp2_with fail
              with_reducible refine hsm.mono ?_
              rintro _ w29 ⟨rfl, hb⟩
              have h29 := h28.trans (hb.mono h28.size)
              clear hb
              clear k0 k1 k2 k3 k4 k5 k6 k7 k8 k9 k10 k11 k12 k13 k14 k15 hB hsm hrd e1 e2
              obtain ⟨k0, k1, k2, k3, k4, k5, k6, k7, k8, k9, k10, k11, k12, k13, k14, k15, hB⟩ := HKP.out _ h29
              go_wp2_with fail
              with_reducible refine (PP5.out _ hB).mono ?_
              rintro _ w30 ⟨rfl, hb⟩
              have h30 := h29.trans (hb.mono h29.size)
              clear hb
              clear k0 k1 k2 k3 k4 k5 k6 k7 k8 k9 k10 k11 k12 k13 k14 k15 hB
              obtain ⟨k0, k1, k2, k3, k4, k5, k6, k7, k8, k9, k10, k11, k12, k13, k14, k15, hB⟩ := HKP.out _ h30
              cases hbb4 : b5 with
              | false =>
                simp only [putE_false]
                have d2 : ((2 : Int) == 0) = false := by decide
                go_wp2_with fail
                go_ret
                exact ⟨rfl, hB⟩
              | true =>
                obtain ⟨NT, hNT, e1, e2, hl, hq, hrd⟩ := RR5.out hbb4
                simp only [putE_true, putS_true]
                have hq1 : IntKind.i64.wrap ((a0 : Int) + (NT : Int) - (a0 : Int)) = (NT : Int) := by rw [show (a0 : Int) + (NT : Int) - (a0 : Int) = (NT : Int) by omega]; exact IntWalk.i64_in _ (by omega)
                go_wp2_with fail
                with_reducible refine (hrd _).mono ?_
                rintro _ w31 ⟨u, rfl, hu, hb⟩
                have h31 := h30.trans (hb.mono h30.size)
                clear hb
                clear k0 k1 k2 k3 k4 k5 k6 k7 k8 k9 k10 k11 k12 k13 k14 k15 hB
                obtain ⟨k0, k1, k2, k3, k4, k5, k6, k7, k8, k9, k10, k11, k12, k13, k14, k15, hB⟩ := HKP.out _ h31
                have hsm := SS5.out _ _ h31 hu
                go_wp2_with fail
                with_reducible refine hsm.mono ?_
                rintro _ w32 ⟨rfl, hb⟩
                have h32 := h31.trans (hb.mono h31.size)
                clear hb
                clear k0 k1 k2 k3 k4 k5 k6 k7 k8 k9 k10 k11 k12 k13 k14 k15 hB hsm hrd e1 e2
                obtain ⟨k0, k1, k2, k3, k4, k5, k6, k7, k8, k9, k10, k11, k12, k13, k14, k15, hB⟩ := HKP.out _ h32
                go_wp2_with fail
                go_ret
                exact ⟨rfl, hB⟩
        | true =>
          obtain ⟨NT, hNT, e1, e2, hl, hq, hrd⟩ := RR2.out hbb1
          simp only [putE_true, putS_true]
          have hq1 : IntKind.i64.wrap ((a0 : Int) + (NT : Int) - (a0 : Int)) = (NT : Int) := by rw [show (a0 : Int) + (NT : Int) - (a0 : Int) = (NT : Int) by omega]; exact IntWalk.i64_in _ (by omega)
          go_wp2_with fail
          with_reducible refine (hrd _).mono ?_
          rintro _ w33 ⟨u, rfl, hu, hb⟩
          have h33 := h11.trans (hb.mono h11.size)
          clear hb
          clear k0 k1 k2 k3 k4 k5 k6 k7 k8 k9 k10 k11 k12 k13 k14 k15 hB
          obtain ⟨k0, k1, k2, k3, k4, k5, k6, k7, k8, k9, k10, k11, k12, k13, k14, k15, hB⟩ := HKP.out _ h33
          obtain ⟨au, cu, rfl⟩ := rc_shape hu
          have hsm := SS2.out _ _ (h33.trans ((below_alloc w33 (.cells #[.int .i64 m0, .int .i64 m1, .string (str t), .int .i64 m3, .slice au NV cu] 44)).mono h33.size)) (hu.1.below (below_alloc w33 (.cells #[.int .i64 m0, .int .i64 m1, .string (str t), .int .i64 m3, .slice au NV cu] 44)))
          have j8 : (w33.alloc (.cells #[.int .i64 m0, .int .i64 m1, .string (str t), .int .i64 m3, .slice au NV cu] 44)).cell? ⟨h, 8, none⟩ = some (.int .i64 m0) := cell_alloc k8
          have j9 : (w33.alloc (.cells #[.int .i64 m0, .int .i64 m1, .string (str t), .int .i64 m3, .slice au NV cu] 44)).cell? ⟨h, 9, none⟩ = some (.int .i64 m1) := cell_alloc k9
          have j10 : (w33.alloc (.cells #[.int .i64 m0, .int .i64 m1, .string (str t), .int .i64 m3, .slice au NV cu] 44)).cell? ⟨h, 10, none⟩ = some (.string (str t)) := cell_alloc k10
          have j11 : (w33.alloc (.cells #[.int .i64 m0, .int .i64 m1, .string (str t), .int .i64 m3, .slice au NV cu] 44)).cell? ⟨h, 11, none⟩ = some (.int .i64 m3) := cell_alloc k11
          have j12 : (w33.alloc (.cells #[.int .i64 m0, .int .i64 m1, .string (str t), .int .i64 m3, .slice au NV cu] 44)).cell? ⟨h, 12, none⟩ = some (.slice av NV cv) := cell_alloc k12
          go_wp2_with fail
          with_reducible refine hsm.mono ?_
          rintro _ w34 ⟨rfl, hb⟩
          have hb := (below_alloc w33 (.cells #[.int .i64 m0, .int .i64 m1, .string (str t), .int .i64 m3, .slice au NV cu] 44)).trans (hb.mono (below_alloc w33 _).size)
          have h34 := h33.trans (hb.mono h33.size)
          clear hb
          clear k0 k1 k2 k3 k4 k5 k6 k7 k8 k9 k10 k11 k12 k13 k14 k15 hB j8 j9 j10 j11 j12 hsm hrd e1 e2
          obtain ⟨k0, k1, k2, k3, k4, k5, k6, k7, k8, k9, k10, k11, k12, k13, k14, k15, hB⟩ := HKP.out _ h34
          go_wp2_with fail
          with_reducible refine (PP3.out _ hB).mono ?_
          rintro _ w35 ⟨rfl, hb⟩
          have h35 := h34.trans (hb.mono h34.size)
          clear hb
          clear k0 k1 k2 k3 k4 k5 k6 k7 k8 k9 k10 k11 k12 k13 k14 k15 hB
          obtain ⟨k0, k1, k2, k3, k4, k5, k6, k7, k8, k9, k10, k11, k12, k13, k14, k15, hB⟩ := HKP.out _ h35
          cases hbb2 : b3 with
          | false =>
            simp only [putE_false]
            have d2 : ((2 : Int) == 0) = false := by decide
            go_wp2_with fail
            with_reducible refine (PP4.out _ hB).mono ?_
            rintro _ w36 ⟨rfl, hb⟩
            have h36 := h35.trans (hb.mono h35.size)
            clear hb
            clear k0 k1 k2 k3 k4 k5 k6 k7 k8 k9 k10 k11 k12 k13 k14 k15 hB
            obtain ⟨k0, k1, k2, k3, k4, k5, k6, k7, k8, k9, k10, k11, k12, k13, k14, k15, hB⟩ := HKP.out _ h36
            cases hbb3 : b4 with
            | false =>
              simp only [putE_false]
              have d2 : ((2 : Int) == 0) = false := by decide
              go_wp2_with fail
              with_reducible refine (PP5.out _ hB).mono ?_
              rintro _ w37 ⟨rfl, hb⟩
              have h37 := h36.trans (hb.mono h36.size)
              clear hb
              clear k0 k1 k2 k3 k4 k5 k6 k7 k8 k9 k10 k11 k12 k13 k14 k15 hB
              obtain ⟨k0, k1, k2, k3, k4, k5, k6, k7, k8, k9, k10, k11, k12, k13, k14, k15, hB⟩ := HKP.out _ h37
              cases hbb4 : b5 with
              | false =>
                simp only [putE_false]
                have d2 : ((2 : Int) == 0) = false := by decide
                go_wp2_with fail
                go_ret
                exact ⟨rfl, hB⟩
              | true =>
                obtain ⟨NT, hNT, e1, e2, hl, hq, hrd⟩ := RR5.out hbb4
                simp only [putE_true, putS_true]
                have hq1 : IntKind.i64.wrap ((a0 : Int) + (NT : Int) - (a0 : Int)) = (NT : Int) := by rw [show (a0 : Int) + (NT : Int) - (a0 : Int) = (NT : Int) by omega]; exact IntWalk.i64_in _ (by omega)
                go_wp2_with fail
                with_reducible refine (hrd _).mono ?_
                rintro _ w38 ⟨u, rfl, hu, hb⟩
                have h38 := h37.trans (hb.mono h37.size)
                clear hb
                clear k0 k1 k2 k3 k4 k5 k6 k7 k8 k9 k10 k11 k12 k13 k14 k15 hB
                obtain ⟨k0, k1, k2, k3, k4, k5, k6, k7, k8, k9, k10, k11, k12, k13, k14, k15, hB⟩ := HKP.out _ h38
                have hsm := SS5.out _ _ h38 hu
                go_wp2_with fail
                with_reducible refine hsm.mono ?_
                rintro _ w39 ⟨rfl, hb⟩
                have h39 := h38.trans (hb.mono h38.size)
                clear hb
                clear k0 k1 k2 k3 k4 k5 k6 k7 k8 k9 k10 k11 k12 k13 k14 k15 hB hsm hrd e1 e2
                obtain ⟨k0, k1, k2, k3, k4, k5, k6, k7, k8, k9, k10, k11, k12, k13, k14, k15, hB⟩ := HKP.out _ h39
                go_wp2_with fail
                go_ret
                exact ⟨rfl, hB⟩
            | true =>
              obtain ⟨NT, hNT, e1, e2, hl, hq, hrd⟩ := RR4.out hbb3
              simp only [putE_true, putS_true]
              have hq1 : IntKind.i64.wrap ((a0 : Int) + (NT : Int) - (a0 : Int)) = (NT : Int) := by rw [show (a0 : Int) + (NT : Int) - (a0 : Int) = (NT : Int) by omega]; exact IntWalk.i64_in _ (by omega)
              go_wp2_with fail
              with_reducible refine (hrd _).mono ?_
              rintro _ w40 ⟨u, rfl, hu, hb⟩
              have h40 := h36.trans (hb.mono h36.size)
              clear hb
              clear k0 k1 k2 k3 k4 k5 k6 k7 k8 k9 k10 k11 k12 k13 k14 k15 hB
              obtain ⟨k0, k1, k2, k3, k4, k5, k6, k7, k8, k9, k10, k11, k12, k13, k14, k15, hB⟩ := HKP.out _ h40
              have hsm := SS4.out _ _ h40 hu
              go_wp2_with fail
              with_reducible refine hsm.mono ?_
              rintro _ w41 ⟨rfl, hb⟩
              have h41 := h40.trans (hb.mono h40.size)
              clear hb
              clear k0 k1 k2 k3 k4 k5 k6 k7 k8 k9 k10 k11 k12 k13 k14 k15 hB hsm hrd e1 e2
              obtain ⟨k0, k1, k2, k3, k4, k5, k6, k7, k8, k9, k10, k11, k12, k13, k14, k15, hB⟩ := HKP.out _ h41
              go_wp2_with fail
              with_reducible refine (PP5.out _ hB).mono ?_
              rintro _ w42 ⟨rfl, hb⟩
              have h42 := h41.trans (hb.mono h41.size)
              clear hb
              clear k0 k1 k2 k3 k4 k5 k6 k7 k8 k9 k10 k11 k12 k13 k14 k15 hB
              obtain ⟨k0, k1, k2, k3, k4, k5, k6, k7, k8, k9, k10, k11, k12, k13, k14, k15, hB⟩ := HKP.out _ h42
              cases hbb4 : b5 with
              | false =>
                simp only [putE_false]
                have d2 : ((2 : Int) == 0) = false := by decide
                go_wp2_with fail
                go_ret
                exact ⟨rfl, hB⟩
              | true =>
                obtain ⟨NT, hNT, e1, e2, hl, hq, hrd⟩ := RR5.out hbb4
                simp only [putE_true, putS_true]
                have hq1 : IntKind.i64.wrap ((a0 : Int) + (NT : Int) - (a0 : Int)) = (NT : Int) := by rw [show (a0 : Int) + (NT : Int) - (a0 : Int) = (NT : Int) by omega]; exact IntWalk.i64_in _ (by omega)
                go_wp2_with fail
                with_reducible refine (hrd _).mono ?_
                rintro _ w43 ⟨u, rfl, hu, hb⟩
                have h43 := h42.trans (hb.mono h42.size)
                clear hb
                clear k0 k1 k2 k3 k4 k5 k6 k7 k8 k9 k10 k11 k12 k13 k14 k15 hB
                obtain ⟨k0, k1, k2, k3, k4, k5, k6, k7, k8, k9, k10, k11, k12, k13, k14, k15, hB⟩ := HKP.out _ h43
                have hsm := SS5.out _ _ h43 hu
                go_wp2_with fail
                with_reducible refine hsm.mono ?_
                rintro _ w44 ⟨rfl, hb⟩
                have h44 := h43.trans (hb.mono h43.size)
                clear hb
                clear k0 k1 k2 k3 k4 k5 k6 k7 k8 k9 k10 k11 k12 k13 k14 k15 hB hsm hrd e1 e2
                obtain ⟨k0, k1, k2, k3, k4, k5, k6, k7, k8, k9, k10, k11, k12, k13, k14, k15, hB⟩ := HKP.out _ h44
                go_wp2_with fail
                go_ret
                exact ⟨rfl, hB⟩
          | true =>
            obtain ⟨NT, hNT, e1, e2, hl, hq, hrd⟩ := RR3.out hbb2
            simp only [putE_true, putS_true]
            have hq1 : IntKind.i64.wrap ((a0 : Int) + (NT : Int) - (a0 : Int)) = (NT : Int) := by rw [show (a0 : Int) + (NT : Int) - (a0 : Int) = (NT : Int) by omega]; exact IntWalk.i64_in _ (by omega)
            go_wp2_with fail
            with_reducible refine (hrd _).mono ?_
            rintro _ w45 ⟨u, rfl, hu, hb⟩
            have h45 := h35.trans (hb.mono h35.size)
            clear hb
            clear k0 k1 k2 k3 k4 k5 k6 k7 k8 k9 k10 k11 k12 k13 k14 k15 hB
            obtain ⟨k0, k1, k2, k3, k4, k5, k6, k7, k8, k9, k10, k11, k12, k13, k14, k15, hB⟩ := HKP.out _ h45
            have hsm := SS3.out _ _ h45 hu
            go_wp2_with fail
            with_reducible refine hsm.mono ?_
            rintro _ w46 ⟨rfl, hb⟩
            have h46 := h45.trans (hb.mono h45.size)
            clear hb
            clear k0 k1 k2 k3 k4 k5 k6 k7 k8 k9 k10 k11 k12 k13 k14 k15 hB hsm hrd e1 e2
            obtain ⟨k0, k1, k2, k3, k4, k5, k6, k7, k8, k9, k10, k11, k12, k13, k14, k15, hB⟩ := HKP.out _ h46
            go_wp2_with fail
            with_reducible refine (PP4.out _ hB).mono ?_
            rintro _ w47 ⟨rfl, hb⟩
            have h47 := h46.trans (hb.mono h46.size)
            clear hb
            clear k0 k1 k2 k3 k4 k5 k6 k7 k8 k9 k10 k11 k12 k13 k14 k15 hB
            obtain ⟨k0, k1, k2, k3, k4, k5, k6, k7, k8, k9, k10, k11, k12, k13, k14, k15, hB⟩ := HKP.out _ h47
            cases hbb3 : b4 with
            | false =>
              simp only [putE_false]
              have d2 : ((2 : Int) == 0) = false := by decide
              go_wp2_with fail
              with_reducible refine (PP5.out _ hB).mono ?_
              rintro _ w48 ⟨rfl, hb⟩
              have h48 := h47.trans (hb.mono h47.size)
              clear hb
              clear k0 k1 k2 k3 k4 k5 k6 k7 k8 k9 k10 k11 k12 k13 k14 k15 hB
              obtain ⟨k0, k1, k2, k3, k4, k5, k6, k7, k8, k9, k10, k11, k12, k13, k14, k15, hB⟩ := HKP.out _ h48
              cases hbb4 : b5 with
              | false =>
                simp only [putE_false]
                have d2 : ((2 : Int) == 0) = false := by decide
                go_wp2_with fail
                go_ret
                exact ⟨rfl, hB⟩
              | true =>
                obtain ⟨NT, hNT, e1, e2, hl, hq, hrd⟩ := RR5.out hbb4
                simp only [putE_true, putS_true]
                have hq1 : IntKind.i64.wrap ((a0 : Int) + (NT : Int) - (a0 : Int)) = (NT : Int) := by rw [show (a0 : Int) + (NT : Int) - (a0 : Int) = (NT : Int) by omega]; exact IntWalk.i64_in _ (by omega)
                go_wp2_with fail
                with_reducible refine (hrd _).mono ?_
                rintro _ w49 ⟨u, rfl, hu, hb⟩
                have h49 := h48.trans (hb.mono h48.size)
                clear hb
                clear k0 k1 k2 k3 k4 k5 k6 k7 k8 k9 k10 k11 k12 k13 k14 k15 hB
                obtain ⟨k0, k1, k2, k3, k4, k5, k6, k7, k8, k9, k10, k11, k12, k13, k14, k15, hB⟩ := HKP.out _ h49
                have hsm := SS5.out _ _ h49 hu
                go_wp2_with fail
                with_reducible refine hsm.mono ?_
                rintro _ w50 ⟨rfl, hb⟩
                have h50 := h49.trans (hb.mono h49.size)
                clear hb
                clear k0 k1 k2 k3 k4 k5 k6 k7 k8 k9 k10 k11 k12 k13 k14 k15 hB hsm hrd e1 e2
                obtain ⟨k0, k1, k2, k3, k4, k5, k6, k7, k8, k9, k10, k11, k12, k13, k14, k15, hB⟩ := HKP.out _ h50
                go_wp2_with fail
                go_ret
                exact ⟨rfl, hB⟩
            | true =>
              obtain ⟨NT, hNT, e1, e2, hl, hq, hrd⟩ := RR4.out hbb3
              simp only [putE_true, putS_true]
              have hq1 : IntKind.i64.wrap ((a0 : Int) + (NT : Int) - (a0 : Int)) = (NT : Int) := by rw [show (a0 : Int) + (NT : Int) - (a0 : Int) = (NT : Int) by omega]; exact IntWalk.i64_in _ (by omega)
              go_wp2_with fail
              with_reducible refine (hrd _).mono ?_
              rintro _ w51 ⟨u, rfl, hu, hb⟩
              have h51 := h47.trans (hb.mono h47.size)
              clear hb
              clear k0 k1 k2 k3 k4 k5 k6 k7 k8 k9 k10 k11 k12 k13 k14 k15 hB
              obtain ⟨k0, k1, k2, k3, k4, k5, k6, k7, k8, k9, k10, k11, k12, k13, k14, k15, hB⟩ := HKP.out _ h51
              have hsm := SS4.out _ _ h51 hu
              go_wp2_with fail
              with_reducible refine hsm.mono ?_
              rintro _ w52 ⟨rfl, hb⟩
              have h52 := h51.trans (hb.mono h51.size)
              clear hb
              clear k0 k1 k2 k3 k4 k5 k6 k7 k8 k9 k10 k11 k12 k13 k14 k15 hB hsm hrd e1 e2
              obtain ⟨k0, k1, k2, k3, k4, k5, k6, k7, k8, k9, k10, k11, k12, k13, k14, k15, hB⟩ := HKP.out _ h52
              go_wp2_with fail
              with_reducible refine (PP5.out _ hB).mono ?_
              rintro _ w53 ⟨rfl, hb⟩
              have h53 := h52.trans (hb.mono h52.size)
              clear hb
              clear k0 k1 k2 k3 k4 k5 k6 k7 k8 k9 k10 k11 k12 k13 k14 k15 hB
              obtain ⟨k0, k1, k2, k3, k4, k5, k6, k7, k8, k9, k10, k11, k12, k13, k14, k15, hB⟩ := HKP.out _ h53
              cases hbb4 : b5 with
              | false =>
                simp only [putE_false]
                have d2 : ((2 : Int) == 0) = false := by decide
                go_wp2_with fail
                go_ret
                exact ⟨rfl, hB⟩
              | true =>
                obtain ⟨NT, hNT, e1, e2, hl, hq, hrd⟩ := RR5.out hbb4
                simp only [putE_true, putS_true]
                have hq1 : IntKind.i64.wrap ((a0 : Int) + (NT : Int) - (a0 : Int)) = (NT : Int) := by rw [show (a0 : Int) + (NT : Int) - (a0 : Int) = (NT : Int) by omega]; exact IntWalk.i64_in _ (by omega)
                go_wp2_with fail
                with_reducible refine (hrd _).mono ?_
                rintro _ w54 ⟨u, rfl, hu, hb⟩
                have h54 := h53.trans (hb.mono h53.size)
                clear hb
                clear k0 k1 k2 k3 k4 k5 k6 k7 k8 k9 k10 k11 k12 k13 k14 k15 hB
                obtain ⟨k0, k1, k2, k3, k4, k5, k6, k7, k8, k9, k10, k11, k12, k13, k14, k15, hB⟩ := HKP.out _ h54
                have hsm := SS5.out _ _ h54 hu
                go_wp2_with fail
                with_reducible refine hsm.mono ?_
                rintro _ w55 ⟨rfl, hb⟩
                have h55 := h54.trans (hb.mono h54.size)
                clear hb
                clear k0 k1 k2 k3 k4 k5 k6 k7 k8 k9 k10 k11 k12 k13 k14 k15 hB hsm hrd e1 e2
                obtain ⟨k0, k1, k2, k3, k4, k5, k6, k7, k8, k9, k10, k11, k12, k13, k14, k15, hB⟩ := HKP.out _ h55
                go_wp2_with fail
                go_ret
                exact ⟨rfl, hB⟩
      | true =>
        obtain ⟨NT, hNT, e1, e2, hl, hq, hrd⟩ := RR1.out hbb0
        simp only [putE_true, putS_true]
        have hq1 : IntKind.i64.wrap ((a0 : Int) + (NT : Int) - (a0 : Int)) = (NT : Int) := by rw [show (a0 : Int) + (NT : Int) - (a0 : Int) = (NT : Int) by omega]; exact IntWalk.i64_in _ (by omega)
        go_wp2_with fail
        with_reducible refine (hrd _).mono ?_
        rintro _ w56 ⟨u, rfl, hu, hb⟩
        have h56 := h10.trans (hb.mono h10.size)
        clear hb
        clear k0 k1 k2 k3 k4 k5 k6 k7 k8 k9 k10 k11 k12 k13 k14 k15 hB
        obtain ⟨k0, k1, k2, k3, k4, k5, k6, k7, k8, k9, k10, k11, k12, k13, k14, k15, hB⟩ := HKP.out _ h56
        obtain ⟨au, cu, rfl⟩ := cm_shape hu
        have hsm := SS1.out _ _ (h56.trans ((below_alloc w56 (.cells #[.int .i64 n0, .int .i64 n1, .string (str s), .int .i64 n3, .slice au NA cu, .int .i64 n5] 41)).mono h56.size)) (hu.1.below (below_alloc w56 (.cells #[.int .i64 n0, .int .i64 n1, .string (str s), .int .i64 n3, .slice au NA cu, .int .i64 n5] 41)))
        have j2 : (w56.alloc (.cells #[.int .i64 n0, .int .i64 n1, .string (str s), .int .i64 n3, .slice au NA cu, .int .i64 n5] 41)).cell? ⟨h, 2, none⟩ = some (.int .i64 n0) := cell_alloc k2
        have j3 : (w56.alloc (.cells #[.int .i64 n0, .int .i64 n1, .string (str s), .int .i64 n3, .slice au NA cu, .int .i64 n5] 41)).cell? ⟨h, 3, none⟩ = some (.int .i64 n1) := cell_alloc k3
        have j4 : (w56.alloc (.cells #[.int .i64 n0, .int .i64 n1, .string (str s), .int .i64 n3, .slice au NA cu, .int .i64 n5] 41)).cell? ⟨h, 4, none⟩ = some (.string (str s)) := cell_alloc k4
        have j5 : (w56.alloc (.cells #[.int .i64 n0, .int .i64 n1, .string (str s), .int .i64 n3, .slice au NA cu, .int .i64 n5] 41)).cell? ⟨h, 5, none⟩ = some (.int .i64 n3) := cell_alloc k5
        have j6 : (w56.alloc (.cells #[.int .i64 n0, .int .i64 n1, .string (str s), .int .i64 n3, .slice au NA cu, .int .i64 n5] 41)).cell? ⟨h, 6, none⟩ = some (.slice aa NA ca) := cell_alloc k6
        have j7 : (w56.alloc (.cells #[.int .i64 n0, .int .i64 n1, .string (str s), .int .i64 n3, .slice au NA cu, .int .i64 n5] 41)).cell? ⟨h, 7, none⟩ = some (.int .i64 n5) := cell_alloc k7
        go_wp2_with fail
        with_reducible refine hsm.mono ?_
        rintro _ w57 ⟨rfl, hb⟩
        have hb := (below_alloc w56 (.cells #[.int .i64 n0, .int .i64 n1, .string (str s), .int .i64 n3, .slice au NA cu, .int .i64 n5] 41)).trans (hb.mono (below_alloc w56 _).size)
        have h57 := h56.trans (hb.mono h56.size)
        clear hb
        clear k0 k1 k2 k3 k4 k5 k6 k7 k8 k9 k10 k11 k12 k13 k14 k15 hB j2 j3 j4 j5 j6 j7 hsm hrd e1 e2
        obtain ⟨k0, k1, k2, k3, k4, k5, k6, k7, k8, k9, k10, k11, k12, k13, k14, k15, hB⟩ := HKP.out _ h57
        go_wp2_with fail
        with_reducible refine (PP2.out _ hB).mono ?_
        rintro _ w58 ⟨rfl, hb⟩
        have h58 := h57.trans (hb.mono h57.size)
        clear hb
        clear k0 k1 k2 k3 k4 k5 k6 k7 k8 k9 k10 k11 k12 k13 k14 k15 hB
        obtain ⟨k0, k1, k2, k3, k4, k5, k6, k7, k8, k9, k10, k11, k12, k13, k14, k15, hB⟩ := HKP.out _ h58
        cases hbb1 : b2 with
        | false =>
          simp only [putE_false]
          have d2 : ((2 : Int) == 0) = false := by decide
          go_wp2_with fail
          with_reducible refine (PP3.out _ hB).mono ?_
          rintro _ w59 ⟨rfl, hb⟩
          have h59 := h58.trans (hb.mono h58.size)
          clear hb
          clear k0 k1 k2 k3 k4 k5 k6 k7 k8 k9 k10 k11 k12 k13 k14 k15 hB
          obtain ⟨k0, k1, k2, k3, k4, k5, k6, k7, k8, k9, k10, k11, k12, k13, k14, k15, hB⟩ := HKP.out _ h59
          cases hbb2 : b3 with
          | false =>
            simp only [putE_false]
            have d2 : ((2 : Int) == 0) = false := by decide
            go_wp2_with fail
            with_reducible refine (PP4.out _ hB).mono ?_
            rintro _ w60 ⟨rfl, hb⟩
            have h60 := h59.trans (hb.mono h59.size)
            clear hb
            clear k0 k1 k2 k3 k4 k5 k6 k7 k8 k9 k10 k11 k12 k13 k14 k15 hB
            obtain ⟨k0, k1, k2, k3, k4, k5, k6, k7, k8, k9, k10, k11, k12, k13, k14, k15, hB⟩ := HKP.out _ h60
            cases hbb3 : b4 with
            | false =>
              simp only [putE_false]
              have d2 : ((2 : Int) == 0) = false := by decide
              go_wp2_with fail
              with_reducible refine (PP5.out _ hB).mono ?_
              rintro _ w61 ⟨rfl, hb⟩
              have h61 := h60.trans (hb.mono h60.size)
              clear hb
              clear k0 k1 k2 k3 k4 k5 k6 k7 k8 k9 k10 k11 k12 k13 k14 k15 hB
              obtain ⟨k0, k1, k2, k3, k4, k5, k6, k7, k8, k9, k10, k11, k12, k13, k14, k15, hB⟩ := HKP.out _ h61
              cases hbb4 : b5 with
              | false =>
                simp only [putE_false]
                have d2 : ((2 : Int) == 0) = false := by decide
                go_wp2_with fail
                go_ret
                exact ⟨rfl, hB⟩
              | true =>
                obtain ⟨NT, hNT, e1, e2, hl, hq, hrd⟩ := RR5.out hbb4
                simp only [putE_true, putS_true]
                have hq1 : IntKind.i64.wrap ((a0 : Int) + (NT : Int) - (a0 : Int)) = (NT : Int) := by rw [show (a0 : Int) + (NT : Int) - (a0 : Int) = (NT : Int) by omega]; exact IntWalk.i64_in _ (by omega)
                go_wp2_with fail
                with_reducible refine (hrd _).mono ?_
                rintro _ w62 ⟨u, rfl, hu, hb⟩
                have h62 := h61.trans (hb.mono h61.size)
                clear hb
                clear k0 k1 k2 k3 k4 k5 k6 k7 k8 k9 k10 k11 k12 k13 k14 k15 hB
                obtain ⟨k0, k1, k2, k3, k4, k5, k6, k7, k8, k9, k10, k11, k12, k13, k14, k15, hB⟩ := HKP.out _ h62
                have hsm := SS5.out _ _ h62 hu
                go_wp2_with fail
                with_reducible refine hsm.mono ?_
                rintro _ w63 ⟨rfl, hb⟩
                have h63 := h62.trans (hb.mono h62.size)
                clear hb
                clear k0 k1 k2 k3 k4 k5 k6 k7 k8 k9 k10 k11 k12 k13 k14 k15 hB hsm hrd e1 e2
                obtain ⟨k0, k1, k2, k3, k4, k5, k6, k7, k8, k9, k10, k11, k12, k13, k14, k15, hB⟩ := HKP.out _ h63
                go_wp2_with fail
                go_ret
                exact ⟨rfl, hB⟩
            | true =>
              obtain ⟨NT, hNT, e1, e2, hl, hq, hrd⟩ := RR4.out hbb3
              simp only [putE_true, putS_true]
              have hq1 : IntKind.i64.wrap ((a0 : Int) + (NT : Int) - (a0 : Int)) = (NT : Int) := by rw [show (a0 : Int) + (NT : Int) - (a0 : Int) = (NT : Int) by omega]; exact IntWalk.i64_in _ (by omega)
              go_wp2_with fail
              with_reducible refine (hrd _).mono ?_
              rintro _ w64 ⟨u, rfl, hu, hb⟩
              have h64 := h60.trans (hb.mono h60.size)
              clear hb
              clear k0 k1 k2 k3 k4 k5 k6 k7 k8 k9 k10 k11 k12 k13 k14 k15 hB
              obtain ⟨k0, k1, k2, k3, k4, k5, k6, k7, k8, k9, k10, k11, k12, k13, k14, k15, hB⟩ := HKP.out _ h64
              have hsm := SS4.out _ _ h64 hu
              go_wp2_with fail
              with_reducible refine hsm.mono ?_
              rintro _ w65 ⟨rfl, hb⟩
              have h65 := h64.trans (hb.mono h64.size)
              clear hb
              clear k0 k1 k2 k3 k4 k5 k6 k7 k8 k9 k10 k11 k12 k13 k14 k15 hB hsm hrd e1 e2
              obtain ⟨k0, k1, k2, k3, k4, k5, k6, k7, k8, k9, k10, k11, k12, k13, k14, k15, hB⟩ := HKP.out _ h65
              go_wp2_with fail
              with_reducible refine (PP5.out _ hB).mono ?_
              rintro _ w66 ⟨rfl, hb⟩
              have h66 := h65.trans (hb.mono h65.size)
              clear hb
              clear k0 k1 k2 k3 k4 k5 k6 k7 k8 k9 k10 k11 k12 k13 k14 k15 hB
              obtain ⟨k0, k1, k2, k3, k4, k5, k6, k7, k8, k9, k10, k11, k12, k13, k14, k15, hB⟩ := HKP.out _ h66
              cases hbb4 : b5 with
              | false =>
                simp only [putE_false]
                have d2 : ((2 : Int) == 0) = false := by decide
                go_wp2_with fail
                go_ret
                exact ⟨rfl, hB⟩
              | true =>
                obtain ⟨NT, hNT, e1, e2, hl, hq, hrd⟩ := RR5.out hbb4
                simp only [putE_true, putS_true]
                have hq1 : IntKind.i64.wrap ((a0 : Int) + (NT : Int) - (a0 : Int)) = (NT : Int) := by rw [show (a0 : Int) + (NT : Int) - (a0 : Int) = (NT : Int) by omega]; exact IntWalk.i64_in _ (by omega)
                go_wp2_with fail
                with_reducible refine (hrd _).mono ?_
                rintro _ w67 ⟨u, rfl, hu, hb⟩
                have h67 := h66.trans (hb.mono h66.size)
                clear hb
                clear k0 k1 k2 k3 k4 k5 k6 k7 k8 k9 k10 k11 k12 k13 k14 k15 hB
                obtain ⟨k0, k1, k2, k3, k4, k5, k6, k7, k8, k9, k10, k11, k12, k13, k14, k15, hB⟩ := HKP.out _ h67
                have hsm := SS5.out _ _ h67 hu
                go_wp2_with fail
                with_reducible refine hsm.mono ?_
                rintro _ w68 ⟨rfl, hb⟩
                have h68 := h67.trans (hb.mono h67.size)
                clear hb
                clear k0 k1 k2 k3 k4 k5 k6 k7 k8 k9 k10 k11 k12 k13 k14 k15 hB hsm hrd e1 e2
                obtain ⟨k0, k1, k2, k3, k4, k5, k6, k7, k8, k9, k10, k11, k12, k13, k14, k15, hB⟩ := HKP.out _ h68
                go_wp2_with fail
                go_ret
                exact ⟨rfl, hB⟩
          | true =>
            obtain ⟨NT, hNT, e1, e2, hl, hq, hrd⟩ := RR3.out hbb2
            simp only [putE_true, putS_true]
            have hq1 : IntKind.i64.wrap ((a0 : Int) + (NT : Int) - (a0 : Int)) = (NT : Int) := by rw [show (a0 : Int) + (NT : Int) - (a0 : Int) = (NT : Int) by omega]; exact IntWalk.i64_in _ (by omega)
            go_wp2_with fail
            with_reducible refine (hrd _).mono ?_
            rintro _ w69 ⟨u, rfl, hu, hb⟩
            have h69 := h59.trans (hb.mono h59.size)
            clear hb
            clear k0 k1 k2 k3 k4 k5 k6 k7 k8 k9 k10 k11 k12 k13 k14 k15 hB
            obtain ⟨k0, k1, k2, k3, k4, k5, k6, k7, k8, k9, k10, k11, k12, k13, k14, k15, hB⟩ := HKP.out _ h69
            have hsm := SS3.out _ _ h69 hu
            go_wp2_with fail
            with_reducible refine hsm.mono ?_
            rintro _ w70 ⟨rfl, hb⟩
            have h70 := h69.trans (hb.mono h69.size)
            clear hb
            clear k0 k1 k2 k3 k4 k5 k6 k7 k8 k9 k10 k11 k12 k13 k14 k15 hB hsm hrd e1 e2
            obtain ⟨k0, k1, k2, k3, k4, k5, k6, k7, k8, k9, k10, k11, k12, k13, k14, k15, hB⟩ := HKP.out _ h70
            go_wp2_with fail
            with_reducible refine (PP4.out _ hB).mono ?_
            rintro _ w71 ⟨rfl, hb⟩
            have h71 := h70.trans (hb.mono h70.size)
            clear hb
            clear k0 k1 k2 k3 k4 k5 k6 k7 k8 k9 k10 k11 k12 k13 k14 k15 hB
            obtain ⟨k0, k1, k2, k3, k4, k5, k6, k7, k8, k9, k10, k11, k12, k13, k14, k15, hB⟩ := HKP.out _ h71
            cases hbb3 : b4 with
            | false =>
              simp only [putE_false]
              have d2 : ((2 : Int) == 0) = false := by decide
              go_wp2_with fail
              with_reducible refine (PP5.out _ hB).mono ?_
              rintro _ w72 ⟨rfl, hb⟩
              have h72 := h71.trans (hb.mono h71.size)
              clear hb
              clear k0 k1 k2 k3 k4 k5 k6 k7 k8 k9 k10 k11 k12 k13 k14 k15 hB
              obtain ⟨k0, k1, k2, k3, k4, k5, k6, k7, k8, k9, k10, k11, k12, k13, k14, k15, hB⟩ := HKP.out _ h72
              cases hbb4 : b5 with
              | false =>
                simp only [putE_false]
                have d2 : ((2 : Int) == 0) = false := by decide
                go_wp2_with fail
                go_ret
                exact ⟨rfl, hB⟩
              | true =>
                obtain ⟨NT, hNT, e1, e2, hl, hq, hrd⟩ := RR5.out hbb4
                simp only [putE_true, putS_true]
                have hq1 : IntKind.i64.wrap ((a0 : Int) + (NT : Int) - (a0 : Int)) = (NT : Int) := by rw [show (a0 : Int) + (NT : Int) - (a0 : Int) = (NT : Int) by omega]; exact IntWalk.i64_in _ (by omega)
                go_wp2_with fail
                with_reducible refine (hrd _).mono ?_
                rintro _ w73 ⟨u, rfl, hu, hb⟩
                have h73 := h72.trans (hb.mono h72.size)
                clear hb
                clear k0 k1 k2 k3 k4 k5 k6 k7 k8 k9 k10 k11 k12 k13 k14 k15 hB
                obtain ⟨k0, k1, k2, k3, k4, k5, k6, k7, k8, k9, k10, k11, k12, k13, k14, k15, hB⟩ := HKP.out _ h73
                have hsm := SS5.out _ _ h73 hu
                go_wp2_with fail
                with_reducible refine hsm.mono ?_
                rintro _ w74 ⟨rfl, hb⟩
                have h74 := h73.trans (hb.mono h73.size)
                clear hb
                clear k0 k1 k2 k3 k4 k5 k6 k7 k8 k9 k10 k11 k12 k13 k14 k15 hB hsm hrd e1 e2
                obtain ⟨k0, k1, k2, k3, k4, k5, k6, k7, k8, k9, k10, k11, k12, k13, k14, k15, hB⟩ := HKP.out _ h74
                go_wp2_with fail
                go_ret
                exact ⟨rfl, hB⟩
            | true =>
              obtain ⟨NT, hNT, e1, e2, hl, hq, hrd⟩ := RR4.out hbb3
              simp only [putE_true, putS_true]
              have hq1 : IntKind.i64.wrap ((a0 : Int) + (NT : Int) - (a0 : Int)) = (NT : Int) := by rw [show (a0 : Int) + (NT : Int) - (a0 : Int) = (NT : Int) by omega]; exact IntWalk.i64_in _ (by omega)
              go_wp2_with fail
              with_reducible refine (hrd _).mono ?_
              rintro _ w75 ⟨u, rfl, hu, hb⟩
              have h75 := h71.trans (hb.mono h71.size)
              clear hb
              clear k0 k1 k2 k3 k4 k5 k6 k7 k8 k9 k10 k11 k12 k13 k14 k15 hB
              obtain ⟨k0, k1, k2, k3, k4, k5, k6, k7, k8, k9, k10, k11, k12, k13, k14, k15, hB⟩ := HKP.out _ h75
              have hsm := SS4.out _ _ h75 hu
              go_wp2_with fail
              with_reducible refine hsm.mono ?_
              rintro _ w76 ⟨rfl, hb⟩
              have h76 := h75.trans (hb.mono h75.size)
              clear hb
              clear k0 k1 k2 k3 k4 k5 k6 k7 k8 k9 k10 k11 k12 k13 k14 k15 hB hsm hrd e1 e2
              obtain ⟨k0, k1, k2, k3, k4, k5, k6, k7, k8, k9, k10, k11, k12, k13, k14, k15, hB⟩ := HKP.out _ h76
              go_wp2_with fail
              with_reducible refine (PP5.out _ hB).mono ?_
              rintro _ w77 ⟨rfl, hb⟩
              have h77 := h76.trans (hb.mono h76.size)
              clear hb
              clear k0 k1 k2 k3 k4 k5 k6 k7 k8 k9 k10 k11 k12 k13 k14 k15 hB
              obtain ⟨k0, k1, k2, k3, k4, k5, k6, k7, k8, k9, k10, k11, k12, k13, k14, k15, hB⟩ := HKP.out _ h77
              cases hbb4 : b5 with
              | false =>
                simp only [putE_false]
                have d2 : ((2 : Int) == 0) = false := by decide
                go_wp2_with fail
                go_ret
                exact ⟨rfl, hB⟩
              | true =>
                obtain ⟨NT, hNT, e1, e2, hl, hq, hrd⟩ := RR5.out hbb4
                simp only [putE_true, putS_true]
                have hq1 : IntKind.i64.wrap ((a0 : Int) + (NT : Int) - (a0 : Int)) = (NT : Int) := by rw [show (a0 : Int) + (NT : Int) - (a0 : Int) = (NT : Int) by omega]; exact IntWalk.i64_in _ (by omega)
                go_wp2_with fail
                with_reducible refine (hrd _).mono ?_
                rintro _ w78 ⟨u, rfl, hu, hb⟩
                have h78 := h77.trans (hb.mono h77.size)
                clear hb
                clear k0 k1 k2 k3 k4 k5 k6 k7 k8 k9 k10 k11 k12 k13 k14 k15 hB
                obtain ⟨k0, k1, k2, k3, k4, k5, k6, k7, k8, k9, k10, k11, k12, k13, k14, k15, hB⟩ := HKP.out _ h78
                have hsm := SS5.out _ _ h78 hu
                go_wp2_with fail
                with_reducible refine hsm.mono ?_
                rintro _ w79 ⟨rfl, hb⟩
                have h79 := h78.trans (hb.mono h78.size)
                clear hb
                clear k0 k1 k2 k3 k4 k5 k6 k7 k8 k9 k10 k11 k12 k13 k14 k15 hB hsm hrd e1 e2
                obtain ⟨k0, k1, k2, k3, k4, k5, k6, k7, k8, k9, k10, k11, k12, k13, k14, k15, hB⟩ := HKP.out _ h79
                go_wp2_with fail
                go_ret
                exact ⟨rfl, hB⟩
        | true =>
          obtain ⟨NT, hNT, e1, e2, hl, hq, hrd⟩ := RR2.out hbb1
          simp only [putE_true, putS_true]
          have hq1 : IntKind.i64.wrap ((a0 : Int) + (NT : Int) - (a0 : Int)) = (NT : Int) := by rw [show (a0 : Int) + (NT : Int) - (a0 : Int) = (NT : Int) by omega]; exact IntWalk.i64_in _ (by omega)
          go_wp2_with fail
          with_reducible refine (hrd _).mono ?_
          rintro _ w80 ⟨u, rfl, hu, hb⟩
          have h80 := h58.trans (hb.mono h58.size)
          clear hb
          clear k0 k1 k2 k3 k4 k5 k6 k7 k8 k9 k10 k11 k12 k13 k14 k15 hB
          obtain ⟨k0, k1, k2, k3, k4, k5, k6, k7, k8, k9, k10, k11, k12, k13, k14, k15, hB⟩ := HKP.out _ h80
          obtain ⟨au, cu, rfl⟩ := rc_shape hu
          have hsm := SS2.out _ _ (h80.trans ((below_alloc w80 (.cells #[.int .i64 m0, .int .i64 m1, .string (str t), .int .i64 m3, .slice au NV cu] 44)).mono h80.size)) (hu.1.below (below_alloc w80 (.cells #[.int .i64 m0, .int .i64 m1, .string (str t), .int .i64 m3, .slice au NV cu] 44)))
          have j8 : (w80.alloc (.cells #[.int .i64 m0, .int .i64 m1, .string (str t), .int .i64 m3, .slice au NV cu] 44)).cell? ⟨h, 8, none⟩ = some (.int .i64 m0) := cell_alloc k8
          have j9 : (w80.alloc (.cells #[.int .i64 m0, .int .i64 m1, .string (str t), .int .i64 m3, .slice au NV cu] 44)).cell? ⟨h, 9, none⟩ = some (.int .i64 m1) := cell_alloc k9
          have j10 : (w80.alloc (.cells #[.int .i64 m0, .int .i64 m1, .string (str t), .int .i64 m3, .slice au NV cu] 44)).cell? ⟨h, 10, none⟩ = some (.string (str t)) := cell_alloc k10
          have j11 : (w80.alloc (.cells #[.int .i64 m0, .int .i64 m1, .string (str t), .int .i64 m3, .slice au NV cu] 44)).cell? ⟨h, 11, none⟩ = some (.int .i64 m3) := cell_alloc k11
          have j12 : (w80.alloc (.cells #[.int .i64 m0, .int .i64 m1, .string (str t), .int .i64 m3, .slice au NV cu] 44)).cell? ⟨h, 12, none⟩ = some (.slice av NV cv) := cell_alloc k12
          go_wp2_with fail
          with_reducible refine hsm.mono ?_
          rintro _ w81 ⟨rfl, hb⟩
          have hb := (below_alloc w80 (.cells #[.int .i64 m0, .int .i64 m1, .string (str t), .int .i64 m3, .slice au NV cu] 44)).trans (hb.mono (below_alloc w80 _).size)
          have h81 := h80.trans (hb.mono h80.size)
          clear hb
          clear k0 k1 k2 k3 k4 k5 k6 k7 k8 k9 k10 k11 k12 k13 k14 k15 hB j8 j9 j10 j11 j12 hsm hrd e1 e2
          obtain ⟨k0, k1, k2, k3, k4, k5, k6, k7, k8, k9, k10, k11, k12, k13, k14, k15, hB⟩ := HKP.out _ h81
          go_wp2_with fail
          with_reducible refine (PP3.out _ hB).mono ?_
          rintro _ w82 ⟨rfl, hb⟩
          have h82 := h81.trans (hb.mono h81.size)
          clear hb
          clear k0 k1 k2 k3 k4 k5 k6 k7 k8 k9 k10 k11 k12 k13 k14 k15 hB
          obtain ⟨k0, k1, k2, k3, k4, k5, k6, k7, k8, k9, k10, k11, k12, k13, k14, k15, hB⟩ := HKP.out _ h82
          cases hbb2 : b3 with
          | false =>
            simp only [putE_false]
            have d2 : ((2 : Int) == 0) = false := by decide
            go_wp2_with fail
            with_reducible refine (PP4.out _ hB).mono ?_
            rintro _ w83 ⟨rfl, hb⟩
            have h83 := h82.trans (hb.mono h82.size)
            clear hb
            clear k0 k1 k2 k3 k4 k5 k6 k7 k8 k9 k10 k11 k12 k13 k14 k15 hB
            obtain ⟨k0, k1, k2, k3, k4, k5, k6, k7, k8, k9, k10, k11, k12, k13, k14, k15, hB⟩ := HKP.out _ h83
            cases hbb3 : b4 with
            | false =>
              simp only [putE_false]
              have d2 : ((2 : Int) == 0) = false := by decide
              go_wp2_with fail
              with_reducible refine (PP5.out _ hB).mono ?_
              rintro _ w84 ⟨rfl, hb⟩
              have h84 := h83.trans (hb.mono h83.size)
              clear hb
              clear k0 k1 k2 k3 k4 k5 k6 k7 k8 k9 k10 k11 k12 k13 k14 k15 hB
              obtain ⟨k0, k1, k2, k3, k4, k5, k6, k7, k8, k9, k10, k11, k12, k13, k14, k15, hB⟩ := HKP.out _ h84
              cases hbb4 : b5 with
              | false =>
                simp only [putE_false]
                have d2 : ((2 : Int) == 0) = false := by decide
                go_wp2_with fail
                go_ret
                exact ⟨rfl, hB⟩
              | true =>
                obtain ⟨NT, hNT, e1, e2, hl, hq, hrd⟩ := RR5.out hbb4
                simp only [putE_true, putS_true]
                have hq1 : IntKind.i64.wrap ((a0 : Int) + (NT : Int) - (a0 : Int)) = (NT : Int) := by rw [show (a0 : Int) + (NT : Int) - (a0 : Int) = (NT : Int) by omega]; exact IntWalk.i64_in _ (by omega)
                go_wp2_with fail
                with_reducible refine (hrd _).mono ?_
                rintro _ w85 ⟨u, rfl, hu, hb⟩
                have h85 := h84.trans (hb.mono h84.size)
                clear hb
                clear k0 k1 k2 k3 k4 k5 k6 k7 k8 k9 k10 k11 k12 k13 k14 k15 hB
                obtain ⟨k0, k1, k2, k3, k4, k5, k6, k7, k8, k9, k10, k11, k12, k13, k14, k15, hB⟩ := HKP.out _ h85
                have hsm := SS5.out _ _ h85 hu
                go_wp2_with fail
                with_reducible refine hsm.mono ?_
                rintro _ w86 ⟨rfl, hb⟩
                have h86 := h85.trans (hb.mono h85.size)
                clear hb
                clear k0 k1 k2 k3 k4 k5 k6 k7 k8 k9 k10 k11 k12 k13 k14 k15 hB hsm hrd e1 e2
                obtain ⟨k0, k1, k2, k3, k4, k5, k6, k7, k8, k9, k10, k11, k12, k13, k14, k15, hB⟩ := HKP.out _ h86
                go_wp2_with fail
                go_ret
                exact ⟨rfl, hB⟩
            | true =>
              obtain ⟨NT, hNT, e1, e2, hl, hq, hrd⟩ := RR4.out hbb3
              simp only [putE_true, putS_true]
              have hq1 : IntKind.i64.wrap ((a0 : Int) + (NT : Int) - (a0 : Int)) = (NT : Int) := by rw [show (a0 : Int) + (NT : Int) - (a0 : Int) = (NT : Int) by omega]; exact IntWalk.i64_in _ (by omega)
              go_wp2_with fail
              with_reducible refine (hrd _).mono ?_
              rintro _ w87 ⟨u, rfl, hu, hb⟩
              have h87 := h83.trans (hb.mono h83.size)
              clear hb
              clear k0 k1 k2 k3 k4 k5 k6 k7 k8 k9 k10 k11 k12 k13 k14 k15 hB
              obtain ⟨k0, k1, k2, k3, k4, k5, k6, k7, k8, k9, k10, k11, k12, k13, k14, k15, hB⟩ := HKP.out _ h87
              have hsm := SS4.out _ _ h87 hu
              go_wp2_with fail
              with_reducible refine hsm.mono ?_
              rintro _ w88 ⟨rfl, hb⟩
              have h88 := h87.trans (hb.mono h87.size)
              clear hb
              clear k0 k1 k2 k3 k4 k5 k6 k7 k8 k9 k10 k11 k12 k13 k14 k15 hB hsm hrd e1 e2
              obtain ⟨k0, k1, k2, k3, k4, k5, k6, k7, k8, k9, k10, k11, k12, k13, k14, k15, hB⟩ := HKP.out _ h88
              go_wp2_with fail
              with_reducible refine (PP5.out _ hB).mono ?_
              rintro _ w89 ⟨rfl, hb⟩
              have h89 := h88.trans (hb.mono h88.size)
              clear hb
              clear k0 k1 k2 k3 k4 k5 k6 k7 k8 k9 k10 k11 k12 k13 k14 k15 hB
              obtain ⟨k0, k1, k2, k3, k4, k5, k6, k7, k8, k9, k10, k11, k12, k13, k14, k15, hB⟩ := HKP.out _ h89
              cases hbb4 : b5 with
              | false =>
                simp only [putE_false]
                have d2 : ((2 : Int) == 0) = false := by decide
                go_wp2_with fail
                go_ret
                exact ⟨rfl, hB⟩
              | true =>
                obtain ⟨NT, hNT, e1, e2, hl, hq, hrd⟩ := RR5.out hbb4
                simp only [putE_true, putS_true]
                have hq1 : IntKind.i64.wrap ((a0 : Int) + (NT : Int) - (a0 : Int)) = (NT : Int) := by rw [show (a0 : Int) + (NT : Int) - (a0 : Int) = (NT : Int) by omega]; exact IntWalk.i64_in _ (by omega)
                go_wp2_with fail
                with_reducible refine (hrd _).mono ?_
                rintro _ w90 ⟨u, rfl, hu, hb⟩
                have h90 := h89.trans (hb.mono h89.size)
                clear hb
                clear k0 k1 k2 k3 k4 k5 k6 k7 k8 k9 k10 k11 k12 k13 k14 k15 hB
                obtain ⟨k0, k1, k2, k3, k4, k5, k6, k7, k8, k9, k10, k11, k12, k13, k14, k15, hB⟩ := HKP.out _ h90
                have hsm := SS5.out _ _ h90 hu
                go_wp2_with fail
                with_reducible refine hsm.mono ?_
                rintro _ w91 ⟨rfl, hb⟩
                have h91 := h90.trans (hb.mono h90.size)
                clear hb
                clear k0 k1 k2 k3 k4 k5 k6 k7 k8 k9 k10 k11 k12 k13 k14 k15 hB hsm hrd e1 e2
                obtain ⟨k0, k1, k2, k3, k4, k5, k6, k7, k8, k9, k10, k11, k12, k13, k14, k15, hB⟩ := HKP.out _ h91
                go_wp2_with fail
                go_ret
                exact ⟨rfl, hB⟩
          | true =>
            obtain ⟨NT, hNT, e1, e2, hl, hq, hrd⟩ := RR3.out hbb2
            simp only [putE_true, putS_true]
            have hq1 : IntKind.i64.wrap ((a0 : Int) + (NT : Int) - (a0 : Int)) = (NT : Int) := by rw [show (a0 : Int) + (NT : Int) - (a0 : Int) = (NT : Int) by omega]; exact IntWalk.i64_in _ (by omega)
            go_wp2_with fail
            with_reducible refine (hrd _).mono ?_
            rintro _ w92 ⟨u, rfl, hu, hb⟩
            have h92 := h82.trans (hb.mono h82.size)
            clear hb
            clear k0 k1 k2 k3 k4 k5 k6 k7 k8 k9 k10 k11 k12 k13 k14 k15 hB
            obtain ⟨k0, k1, k2, k3, k4, k5, k6, k7, k8, k9, k10, k11, k12, k13, k14, k15, hB⟩ := HKP.out _ h92
            have hsm := SS3.out _ _ h92 hu
            go_wp2_with fail
            with_reducible refine hsm.mono ?_
            rintro _ w93 ⟨rfl, hb⟩
            have h93 := h92.trans (hb.mono h92.size)
            clear hb
            clear k0 k1 k2 k3 k4 k5 k6 k7 k8 k9 k10 k11 k12 k13 k14 k15 hB hsm hrd e1 e2
            obtain ⟨k0, k1, k2, k3, k4, k5, k6, k7, k8, k9, k10, k11, k12, k13, k14, k15, hB⟩ := HKP.out _ h93
            go_wp2_with fail
            with_reducible refine (PP4.out _ hB).mono ?_
            rintro _ w94 ⟨rfl, hb⟩
            have h94 := h93.trans (hb.mono h93.size)
            clear hb
            clear k0 k1 k2 k3 k4 k5 k6 k7 k8 k9 k10 k11 k12 k13 k14 k15 hB
            obtain ⟨k0, k1, k2, k3, k4, k5, k6, k7, k8, k9, k10, k11, k12, k13, k14, k15, hB⟩ := HKP.out _ h94
            cases hbb3 : b4 with
            | false =>
              simp only [putE_false]
              have d2 : ((2 : Int) == 0) = false := by decide
              go_wp2_with fail
              with_reducible refine (PP5.out _ hB).mono ?_
              rintro _ w95 ⟨rfl, hb⟩
              have h95 := h94.trans (hb.mono h94.size)
              clear hb
              clear k0 k1 k2 k3 k4 k5 k6 k7 k8 k9 k10 k11 k12 k13 k14 k15 hB
              obtain ⟨k0, k1, k2, k3, k4, k5, k6, k7, k8, k9, k10, k11, k12, k13, k14, k15, hB⟩ := HKP.out _ h95
              cases hbb4 : b5 with
              | false =>
                simp only [putE_false]
                have d2 : ((2 : Int) == 0) = false := by decide
                go_wp2_with fail
                go_ret
                exact ⟨rfl, hB⟩
              | true =>
                obtain ⟨NT, hNT, e1, e2, hl, hq, hrd⟩ := RR5.out hbb4
                simp only [putE_true, putS_true]
                have hq1 : IntKind.i64.wrap ((a0 : Int) + (NT : Int) - (a0 : Int)) = (NT : Int) := by rw [show (a0 : Int) + (NT : Int) - (a0 : Int) = (NT : Int) by omega]; exact IntWalk.i64_in _ (by omega)
                go_wp2_with fail
                with_reducible refine (hrd _).mono ?_
                rintro _ w96 ⟨u, rfl, hu, hb⟩
                have h96 := h95.trans (hb.mono h95.size)
                clear hb
                clear k0 k1 k2 k3 k4 k5 k6 k7 k8 k9 k10 k11 k12 k13 k14 k15 hB
                obtain ⟨k0, k1, k2, k3, k4, k5, k6, k7, k8, k9, k10, k11, k12, k13, k14, k15, hB⟩ := HKP.out _ h96
                have hsm := SS5.out _ _ h96 hu
                go_wp2_with fail
                with_reducible refine hsm.mono ?_
                rintro _ w97 ⟨rfl, hb⟩
                have h97 := h96.trans (hb.mono h96.size)
                clear hb
                clear k0 k1 k2 k3 k4 k5 k6 k7 k8 k9 k10 k11 k12 k13 k14 k15 hB hsm hrd e1 e2
                obtain ⟨k0, k1, k2, k3, k4, k5, k6, k7, k8, k9, k10, k11, k12, k13, k14, k15, hB⟩ := HKP.out _ h97
                go_wp2_with fail
                go_ret
                exact ⟨rfl, hB⟩
            | true =>
              obtain ⟨NT, hNT, e1, e2, hl, hq, hrd⟩ := RR4.out hbb3
              simp only [putE_true, putS_true]
              have hq1 : IntKind.i64.wrap ((a0 : Int) + (NT : Int) - (a0 : Int)) = (NT : Int) := by rw [show (a0 : Int) + (NT : Int) - (a0 : Int) = (NT : Int) by omega]; exact IntWalk.i64_in _ (by omega)
              go_wp2_with fail
              with_reducible refine (hrd _).mono ?_
              rintro _ w98 ⟨u, rfl, hu, hb⟩
              have h98 := h94.trans (hb.mono h94.size)
              clear hb
              clear k0 k1 k2 k3 k4 k5 k6 k7 k8 k9 k10 k11 k12 k13 k14 k15 hB
              obtain ⟨k0, k1, k2, k3, k4, k5, k6, k7, k8, k9, k10, k11, k12, k13, k14, k15, hB⟩ := HKP.out _ h98
              have hsm := SS4.out _ _ h98 hu
              go_wp2_with fail
              with_reducible refine hsm.mono ?_
              rintro _ w99 ⟨rfl, hb⟩
              have h99 := h98.trans (hb.mono h98.size)
              clear hb
              clear k0 k1 k2 k3 k4 k5 k6 k7 k8 k9 k10 k11 k12 k13 k14 k15 hB hsm hrd e1 e2
              obtain ⟨k0, k1, k2, k3, k4, k5, k6, k7, k8, k9, k10, k11, k12, k13, k14, k15, hB⟩ := HKP.out _ h99
              go_wp2_with fail
              with_reducible refine (PP5.out _ hB).mono ?_
              rintro _ w100 ⟨rfl, hb⟩
              have h100 := h99.trans (hb.mono h99.size)
              clear hb
              clear k0 k1 k2 k3 k4 k5 k6 k7 k8 k9 k10 k11 k12 k13 k14 k15 hB
              obtain ⟨k0, k1, k2, k3, k4, k5, k6, k7, k8, k9, k10, k11, k12, k13, k14, k15, hB⟩ := HKP.out _ h100
              cases hbb4 : b5 with
              | false =>
                simp only [putE_false]
                have d2 : ((2 : Int) == 0) = false := by decide
                go_wp2_with fail
                go_ret
                exact ⟨rfl, hB⟩
              | true =>
                obtain ⟨NT, hNT, e1, e2, hl, hq, hrd⟩ := RR5.out hbb4
                simp only [putE_true, putS_true]
                have hq1 : IntKind.i64.wrap ((a0 : Int) + (NT : Int) - (a0 : Int)) = (NT : Int) := by rw [show (a0 : Int) + (NT : Int) - (a0 : Int) = (NT : Int) by omega]; exact IntWalk.i64_in _ (by omega)
                go_wp2_with fail
                with_reducible refine (hrd _).mono ?_
                rintro _ w101 ⟨u, rfl, hu, hb⟩
                have h101 := h100.trans (hb.mono h100.size)
                clear hb
                clear k0 k1 k2 k3 k4 k5 k6 k7 k8 k9 k10 k11 k12 k13 k14 k15 hB
                obtain ⟨k0, k1, k2, k3, k4, k5, k6, k7, k8, k9, k10, k11, k12, k13, k14, k15, hB⟩ := HKP.out _ h101
                have hsm := SS5.out _ _ h101 hu
                go_wp2_with fail
                with_reducible refine hsm.mono ?_
                rintro _ w102 ⟨rfl, hb⟩
                have h102 := h101.trans (hb.mono h101.size)
                clear hb
                clear k0 k1 k2 k3 k4 k5 k6 k7 k8 k9 k10 k11 k12 k13 k14 k15 hB hsm hrd e1 e2
                obtain ⟨k0, k1, k2, k3, k4, k5, k6, k7, k8, k9, k10, k11, k12, k13, k14, k15, hB⟩ := HKP.out _ h102
                go_wp2_with fail
                go_ret
                exact ⟨rfl, hB⟩

theorem lifted (os : Os) (started : os.Started) (H : Type) (enc : TypeId × Value → H) :
    ReturnsInHanded {} Tryz.checked os 4 .any (Rows.codecBackSpec.pre6 enc Tryz.prog Tryz.f4 Rows.codecBackRow.domain false) (Rows.codecBackSpec.post enc Tryz.prog Tryz.f4 false true false false) := by
  refine returnsInHanded_of_change_sized (C := Tryz.checked) own started (by kernel_rfl) Tryz.func4
    (ChangeSpec.witness6 (enc := enc) (C := Tryz.checked) false ⟨#[], #[.agg #[.string ⟨#[]⟩, .string ⟨#[]⟩, .int .i64 0, .int .i64 0, .string ⟨#[]⟩, .int .i64 0, .slice none 0 0, .int .i64 0, .int .i64 0, .int .i64 0, .string ⟨#[]⟩, .int .i64 0, .slice none 0 0, .slice none 0 0, .slice none 0 0, .slice none 0 0]], []⟩ 8 (by kernel_rfl) (by kernel_rfl) (by kernel_rfl) (by kernel_rfl)) ?_
  intro W base args ds gs before hval0 hW hcnd hsz0 _
  have hsz : (DataW.weightsEach Tryz.prog (Tryz.f4.params.toList ++ Rows.codecBackSpec.plain.varTypes Tryz.prog) (ds ++ gs)).all (· ≤ reachBytes) = true := hsz0
  clear hsz0
  have hval : ∀ (j : Nat) t v, Tryz.f4.params[j]? = some t → args[j]? = some v → Value.okWide Tryz.prog W .any base t v := hval0
  have hW' := hW
  obtain ⟨p, q, hA0, hV, rfl, hfz, hnd⟩ := hW
  have hA : DataW.TrodAll enc Tryz.prog W 0 (fun _ => true) true Tryz.f4.params.toList args.toList ds p := hA0
  rw [Tryz.params4] at hA hval hsz
  obtain ⟨v0, vs0, d0, ds0, p0, q0, hargs, rfl, rfl, h0, r0⟩ := trodAll_cons hA
  obtain ⟨rfl, rfl, rfl⟩ := trodAll_nil r0
  obtain rfl : args = #[v0] := by cases args; simp_all
  have hb0 : Fits (P := Tryz.prog) 46 d0 := fun m hm => by
    have h := List.all_eq_true.1 hsz m (DataW.weights_mem_each (j := 0) (t := 46) rfl rfl m hm)
    simpa using h
  obtain ⟨cs, rfl, hcs⟩ := okWide_struct Tryz.underlying46 (hval 0 46 v0 rfl rfl)
  obtain ⟨fuel, hf⟩ := h0
  obtain ⟨A, B, c, r, l, v, p, uu, uv, ux, uy, uz, hc, hlA, hlB, k1, k2, k3, k4, k5, k6, k7, k8, k9, k10⟩ := laid_el (show DataW.trod enc Tryz.prog W 0 (fun _ => true) true fuel 46 cs.toList = some (d0, p0) from hf) hb0
  obtain ⟨ls⟩ := cs
  obtain rfl : ls = _ := hc
  have hw := walk low cod A B c r l v p uu uv ux uy uz W hlA hlB k1 k2 k3 k4 k5 k6 k7 k8 k9 k10
  refine hw.mono fun e W' ⟨he, hb⟩ => ?_
  subst he
  exact ⟨_, rfl, post_law hW' hb laidOut rfl rfl rfl Tryz.underlying4 (by rw [Tryz.params4]; decide +kernel)⟩

theorem over : Rows.codecBackRow.holds Tryz.pinned (OpenSpec.ofChange Rows.codecBackSpec) :=
  OpenClaim.holds_of_wide 4 Tryz.f4 rfl rfl rfl rfl rfl rfl rfl ⟨rfl, rfl, rfl, rfl, rfl⟩ rfl rfl rfl rfl rfl (by kernel_rfl) Tryz.func4 (by kernel_rfl)
    (of_decide_eq_true (by kernel_rfl)) (by unfold Func.isWrapper; first | (rw [if_pos (by decide +kernel)]; kernel_rfl) | (rw [if_neg (by decide +kernel)]; exact ⟨rfl, rfl⟩))
    (fun os started H enc _ => lifted os started H enc)

theorem proved : Rows.CodecBackSaid := over
#print axioms proved
end Go.Proofs.YtebglkpejdoggaaGreat.codecBack
