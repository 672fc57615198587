/-
  Layer 10, the program: what is put.
-/
import Derived.Test.YtebglkpejdoggaaGreatP10La
import Derived.Test.YtebglkpejdoggaaGreatP10Ld
import Derived.Test.YtebglkpejdoggaaGreatP8Lib
namespace Go.Proofs.YtebglkpejdoggaaGreat.C10
open Go Go.RowKit Go.Proofs Go.Proofs.YtebglkpejdoggaaGreat.B Go.Proofs.YtebglkpejdoggaaGreat.K Go.Proofs.YtebglkpejdoggaaGreat.P8
set_option linter.unusedVariables false
set_option maxRecDepth 100000

theorem cmd_small {c : Cm} (h : cmdP c = true) : c.stream.length ≤ 4096 ∧ c.args.length ≤ 256 := by
  unfold cmdP at h
  simp only [Bool.and_eq_true] at h
  have h1 := (head_facts h.1).2.2
  have h2 := (vals_facts h.2.2.1).2
  omega
theorem evs_small {l : List Ev} (h : evsP l = true) : l.length ≤ 256 ∧ ∀ x ∈ l, x.vars.length ≤ 256 := by
  obtain ⟨h1, h2⟩ := evs_facts h
  refine ⟨by omega, fun x hx => ?_⟩
  have := h1 x hx
  unfold evP at this
  rw [Bool.and_eq_true] at this
  have := (vals_facts this.2).2
  omega
theorem rec_small {c : Rc} (h : recP c = true) : c.stream.length ≤ 4096 ∧ c.events.length ≤ 256 ∧ ∀ x ∈ c.events, x.vars.length ≤ 256 := by
  unfold recP at h
  simp only [Bool.and_eq_true] at h
  have h1 := (head_facts h.1).2.2
  exact ⟨by omega, evs_small h.2.2.1⟩
theorem its_small {l : List It} (h : itemsP l = true) : l.length ≤ 256 ∧ ∀ x ∈ l, x.stream.length ≤ 4096 ∧ x.st.vars.length ≤ 256 := by
  unfold itemsP at h
  rw [Bool.and_eq_true, decide_eq_true_eq] at h
  refine ⟨by omega, fun x hx => ?_⟩
  obtain ⟨h1, h2⟩ := items_each l 0 l h.1 x hx
  unfold stP at h2
  simp only [Bool.and_eq_true] at h2
  have h3 := stream_len h1
  have h4 := (vals_facts h2.2.2).2
  omega
theorem vds_small {l : List Vd} (h : vdsP l = true) : l.length ≤ 256 := by
  unfold vdsP at h
  rw [Bool.and_eq_true, decide_eq_true_eq] at h
  omega
theorem filt_small {l : List (List UInt8)} (h : filtP l = true) : l.length ≤ 256 ∧ ∀ x ∈ l, x.length ≤ 4096 := by
  unfold filtP at h
  rw [Bool.and_eq_true, decide_eq_true_eq, List.all_eq_true] at h
  exact ⟨by omega, fun x hx => by have := pat_len (h.2 x hx); omega⟩

set_option maxHeartbeats 2000000 in
theorem pPutItems_any (l : List It) (v : Value) (w : World) (h : ItsIs w v l) (hw : ItsWf l) :
    Calls Tryz.prog 6 #[v] w fun e w' => e = .returned (.tuple #[.string (str (putS (itemsP l) (layItems l))), .int .i64 (putE (itemsP l))]) ∧ Below w.heap.size w w' := by
  have HP : Calls Tryz.prog 29 #[v, .func (.func 30) #[] #[], .func (.func 31) #[] #[]] w fun e w' => e = .returned (.tuple #[.string (str (putS (itemsP l) (layItems l))), .int .i64 (putE (itemsP l))]) ∧ Below w.heap.size w w' := by
    have H0 := Lib.hid (fun W (hv : ItsIs W v l) => mayItems_any l v W hv hw)
    have H1 := Lib.hid (fun (hp : itemsP l = true) W (hv : ItsIs W v l) => playItems_any l v W hv (fun x hx => ⟨(hw.1 x hx).2, (its_small hp).2 x hx⟩) (its_small hp).1)
    obtain ⟨b, hb⟩ : ∃ b, itemsP l = b := ⟨_, rfl⟩
    rw [hb] at H0 H1 ⊢
    clear hb hw
    have HV := Lib.hid (fun W (hb : Below w.heap.size w W) => h.below hb)
    have HV0 := Lib.hid h
    obtain ⟨a, cap, rfl, -⟩ := h.open
    generalize layItems l = R at H1 ⊢
    go_enter Tryz.func29, Tryz.ntmps29
    go_wp2_with fail
    refine (H0.out _ HV0.out).mono ?_
    rintro _ w1 ⟨rfl, hb1⟩
    have HB1 := Lib.hid hb1
    clear hb1
    cases b with
    | false =>
      go_wp2_with fail
      go_ret2
      exact ⟨rfl, HB1.out⟩
    | true =>
      go_wp2_with fail
      refine (H1.out (by simp) _ (HV.out _ HB1.out)).mono ?_
      rintro _ w2 ⟨rfl, hb2⟩
      have HB2 := Lib.hid hb2
      clear hb2
      go_wp2_with fail
      go_ret2
      exact ⟨rfl, HB1.out.trans (HB2.out.mono HB1.out.size)⟩
  obtain ⟨a, cap, rfl, -⟩ := h.open
  generalize putS (itemsP l) (layItems l) = R at HP ⊢
  generalize putE (itemsP l) = E at HP ⊢
  have HP := Lib.hid HP
  clear h hw
  go_enter Tryz.func6, Tryz.ntmps6
  go_wp2_with (go_at_call 29; refine HP.out.mono ?_; rintro _ w1 ⟨rfl, hb1⟩; have HB1 := Lib.hid hb1; clear hb1)
  go_ret2
  exact ⟨rfl, HB1.out⟩

set_option maxHeartbeats 2000000 in
theorem pPutVerdicts_any (l : List Vd) (v : Value) (w : World) (h : VdsIs w v l) (hw : VdsWf l) :
    Calls Tryz.prog 7 #[v] w fun e w' => e = .returned (.tuple #[.string (str (putS (vdsP l) (layVds l))), .int .i64 (putE (vdsP l))]) ∧ Below w.heap.size w w' := by
  have HP : Calls Tryz.prog 32 #[v, .func (.func 33) #[] #[], .func (.func 34) #[] #[]] w fun e w' => e = .returned (.tuple #[.string (str (putS (vdsP l) (layVds l))), .int .i64 (putE (vdsP l))]) ∧ Below w.heap.size w w' := by
    have H0 := Lib.hid (fun W (hv : VdsIs W v l) => mayVerdicts_any l v W hv hw)
    have H1 := Lib.hid (fun (hp : vdsP l = true) W (hv : VdsIs W v l) => playVerdicts_any l v W hv (fun x hx => hw.1 x hx) (vds_small hp))
    obtain ⟨b, hb⟩ : ∃ b, vdsP l = b := ⟨_, rfl⟩
    rw [hb] at H0 H1 ⊢
    clear hb hw
    have HV := Lib.hid (fun W (hb : Below w.heap.size w W) => h.below hb)
    have HV0 := Lib.hid h
    obtain ⟨a, cap, rfl, -⟩ := h.open
    generalize layVds l = R at H1 ⊢
    go_enter Tryz.func32, Tryz.ntmps32
    go_wp2_with fail
    refine (H0.out _ HV0.out).mono ?_
    rintro _ w1 ⟨rfl, hb1⟩
    have HB1 := Lib.hid hb1
    clear hb1
    cases b with
    | false =>
      go_wp2_with fail
      go_ret2
      exact ⟨rfl, HB1.out⟩
    | true =>
      go_wp2_with fail
      refine (H1.out (by simp) _ (HV.out _ HB1.out)).mono ?_
      rintro _ w2 ⟨rfl, hb2⟩
      have HB2 := Lib.hid hb2
      clear hb2
      go_wp2_with fail
      go_ret2
      exact ⟨rfl, HB1.out.trans (HB2.out.mono HB1.out.size)⟩
  obtain ⟨a, cap, rfl, -⟩ := h.open
  generalize putS (vdsP l) (layVds l) = R at HP ⊢
  generalize putE (vdsP l) = E at HP ⊢
  have HP := Lib.hid HP
  clear h hw
  go_enter Tryz.func7, Tryz.ntmps7
  go_wp2_with (go_at_call 32; refine HP.out.mono ?_; rintro _ w1 ⟨rfl, hb1⟩; have HB1 := Lib.hid hb1; clear hb1)
  go_ret2
  exact ⟨rfl, HB1.out⟩

set_option maxHeartbeats 2000000 in
theorem pPutFilter_any (l : List (List UInt8)) (v : Value) (w : World) (h : SlT w v l) (hw : FlWf l) :
    Calls Tryz.prog 8 #[v] w fun e w' => e = .returned (.tuple #[.string (str (putS (filtP l) (layFilt l))), .int .i64 (putE (filtP l))]) ∧ Below w.heap.size w w' := by
  have HP : Calls Tryz.prog 35 #[v, .func (.func 36) #[] #[], .func (.func 37) #[] #[]] w fun e w' => e = .returned (.tuple #[.string (str (putS (filtP l) (layFilt l))), .int .i64 (putE (filtP l))]) ∧ Below w.heap.size w w' := by
    have H0 := Lib.hid (fun W (hv : SlT W v l) => mayFilter_any l v W hv hw)
    have H1 := Lib.hid (fun (hp : filtP l = true) W (hv : SlT W v l) => layFilter_any l v W hv (filt_small hp).2 (filt_small hp).1)
    obtain ⟨b, hb⟩ : ∃ b, filtP l = b := ⟨_, rfl⟩
    rw [hb] at H0 H1 ⊢
    clear hb hw
    have HV := Lib.hid (fun W (hb : Below w.heap.size w W) => h.below hb)
    have HV0 := Lib.hid h
    obtain ⟨a, cap, rfl, -⟩ := h.open
    generalize layFilt l = R at H1 ⊢
    go_enter Tryz.func35, Tryz.ntmps35
    go_wp2_with fail
    refine (H0.out _ HV0.out).mono ?_
    rintro _ w1 ⟨rfl, hb1⟩
    have HB1 := Lib.hid hb1
    clear hb1
    cases b with
    | false =>
      go_wp2_with fail
      go_ret2
      exact ⟨rfl, HB1.out⟩
    | true =>
      go_wp2_with fail
      refine (H1.out (by simp) _ (HV.out _ HB1.out)).mono ?_
      rintro _ w2 ⟨rfl, hb2⟩
      have HB2 := Lib.hid hb2
      clear hb2
      go_wp2_with fail
      go_ret2
      exact ⟨rfl, HB1.out.trans (HB2.out.mono HB1.out.size)⟩
  obtain ⟨a, cap, rfl, -⟩ := h.open
  generalize putS (filtP l) (layFilt l) = R at HP ⊢
  generalize putE (filtP l) = E at HP ⊢
  have HP := Lib.hid HP
  clear h hw
  go_enter Tryz.func8, Tryz.ntmps8
  go_wp2_with (go_at_call 35; refine HP.out.mono ?_; rintro _ w1 ⟨rfl, hb1⟩; have HB1 := Lib.hid hb1; clear hb1)
  go_ret2
  exact ⟨rfl, HB1.out⟩

set_option maxHeartbeats 2000000 in
theorem pPutCmd_any (c : Cm) (v : Value) (w : World) (h : SlN w v c.args) (hw : CmWf c) :
    Calls Tryz.prog 17 #[.agg #[.int .i64 c.client, .int .i64 c.seq, .string (str c.stream), .int .i64 c.rule, v, .int .i64 c.expect]] w fun e w' => e = .returned (.tuple #[.string (str (putS (cmdP c) (layCmd c))), .int .i64 (putE (cmdP c))]) ∧ Below w.heap.size w w' := by
  have M0 := fun W (hv : SlN W v c.args) => mayCmd_any c v W hv hw
  have M1 := fun (hp : cmdP c = true) W (hv : SlN W v c.args) => layCmdP_any c v W hv hw (cmd_small hp).1 (cmd_small hp).2
  obtain ⟨b, hb⟩ : ∃ b, cmdP c = b := ⟨_, rfl⟩
  rw [hb] at M0 M1 ⊢
  generalize layCmd c = R at M1 ⊢
  obtain ⟨n0, n1, t, n3, sl, n5⟩ := c
  dsimp only at h M0 M1 ⊢
  clear hb hw
  have HV := Lib.hid (fun W (hb : Below w.heap.size w W) => h.below hb)
  obtain ⟨a, cap, rfl, -⟩ := h.open
  obtain ⟨L, hL⟩ : ∃ L, sl.length = L := ⟨_, rfl⟩
  rw [hL] at HV M0 M1 ⊢
  have H0 := Lib.hid M0
  have H1 := Lib.hid M1
  clear M0 M1 hL
  have HP : ∀ w : World, (∀ W, Below w.heap.size w W → SlN W (.slice a L cap) sl) → Calls Tryz.prog 47 #[.agg #[.int .i64 n0, .int .i64 n1, .string (str t), .int .i64 n3, .slice a L cap, .int .i64 n5], .func (.func 48) #[] #[], .func (.func 49) #[] #[]] w fun e w' => e = .returned (.tuple #[.string (str (putS b R)), .int .i64 (putE b)]) ∧ Below w.heap.size w w' := by
    intro w HV
    have HV := Lib.hid HV
    obtain ⟨W0, hW0⟩ : ∃ W0, w.alloc (.cells #[.int .i64 n0, .int .i64 n1, .string (str t), .int .i64 n3, .slice a L cap, .int .i64 n5] 41) = W0 := ⟨_, rfl⟩
    have hB0 : Below w.heap.size w W0 := by rw [← hW0]; exact below_alloc _ _
    have k0 : W0.cell? ⟨w.heap.size, 0, none⟩ = some (.int .i64 n0) := by rw [← hW0]; exact alloc_cell w [_, _, _, _, _, _] _ 0 _ rfl
    have k1 : W0.cell? ⟨w.heap.size, 1, none⟩ = some (.int .i64 n1) := by rw [← hW0]; exact alloc_cell w [_, _, _, _, _, _] _ 1 _ rfl
    have k2 : W0.cell? ⟨w.heap.size, 2, none⟩ = some (.string (str t)) := by rw [← hW0]; exact alloc_cell w [_, _, _, _, _, _] _ 2 _ rfl
    have k3 : W0.cell? ⟨w.heap.size, 3, none⟩ = some (.int .i64 n3) := by rw [← hW0]; exact alloc_cell w [_, _, _, _, _, _] _ 3 _ rfl
    have k4 : W0.cell? ⟨w.heap.size, 4, none⟩ = some (.slice a L cap) := by rw [← hW0]; exact alloc_cell w [_, _, _, _, _, _] _ 4 _ rfl
    have k5 : W0.cell? ⟨w.heap.size, 5, none⟩ = some (.int .i64 n5) := by rw [← hW0]; exact alloc_cell w [_, _, _, _, _, _] _ 5 _ rfl
    have HB0 := Lib.hid hB0
    clear hB0
    go_enter Tryz.func47, Tryz.ntmps47
    go_wp2_with fail
    refine (H0.out _ (HV.out _ HB0.out)).mono ?_
    rintro _ w1 ⟨rfl, hb1⟩
    have k0 := kept_cell hb1 k0
    have k1 := kept_cell hb1 k1
    have k2 := kept_cell hb1 k2
    have k3 := kept_cell hb1 k3
    have k4 := kept_cell hb1 k4
    have k5 := kept_cell hb1 k5
    have HB1 := Lib.hid (HB0.out.trans (hb1.mono HB0.out.size))
    clear hb1 hW0
    cases b with
    | false =>
      go_wp2_with fail
      go_ret2
      exact ⟨rfl, HB1.out⟩
    | true =>
      go_wp2_with fail
      refine (H1.out (by simp) _ (HV.out _ HB1.out)).mono ?_
      rintro _ w2 ⟨rfl, hb2⟩
      have HB2 := Lib.hid hb2
      clear hb2
      go_wp2_with fail
      go_ret2
      exact ⟨rfl, HB1.out.trans (HB2.out.mono HB1.out.size)⟩
  obtain ⟨W0, hW0⟩ : ∃ W0, w.alloc (.cells #[.int .i64 n0, .int .i64 n1, .string (str t), .int .i64 n3, .slice a L cap, .int .i64 n5] 41) = W0 := ⟨_, rfl⟩
  have hB0 : Below w.heap.size w W0 := by rw [← hW0]; exact below_alloc _ _
  have k0 : W0.cell? ⟨w.heap.size, 0, none⟩ = some (.int .i64 n0) := by rw [← hW0]; exact alloc_cell w [_, _, _, _, _, _] _ 0 _ rfl
  have k1 : W0.cell? ⟨w.heap.size, 1, none⟩ = some (.int .i64 n1) := by rw [← hW0]; exact alloc_cell w [_, _, _, _, _, _] _ 1 _ rfl
  have k2 : W0.cell? ⟨w.heap.size, 2, none⟩ = some (.string (str t)) := by rw [← hW0]; exact alloc_cell w [_, _, _, _, _, _] _ 2 _ rfl
  have k3 : W0.cell? ⟨w.heap.size, 3, none⟩ = some (.int .i64 n3) := by rw [← hW0]; exact alloc_cell w [_, _, _, _, _, _] _ 3 _ rfl
  have k4 : W0.cell? ⟨w.heap.size, 4, none⟩ = some (.slice a L cap) := by rw [← hW0]; exact alloc_cell w [_, _, _, _, _, _] _ 4 _ rfl
  have k5 : W0.cell? ⟨w.heap.size, 5, none⟩ = some (.int .i64 n5) := by rw [← hW0]; exact alloc_cell w [_, _, _, _, _, _] _ 5 _ rfl
  have HPP := Lib.hid (HP W0 (fun W hb => HV.out W (hB0.trans (hb.mono hB0.size))))
  have HB0 := Lib.hid hB0
  clear hB0 HP
  generalize putS b R = R1 at HPP ⊢
  generalize putE b = E1 at HPP ⊢
  go_enter Tryz.func17, Tryz.ntmps17
  go_wp2_with fail
  refine HPP.out.mono ?_
  rintro _ w1 ⟨rfl, hb1⟩
  have HB1 := Lib.hid (HB0.out.trans (hb1.mono HB0.out.size))
  clear hb1 hW0
  go_wp2_with fail
  go_ret2
  exact ⟨rfl, HB1.out⟩

set_option maxHeartbeats 2000000 in
theorem pPutRecord_any (c : Rc) (v : Value) (w : World) (h : EvsIs w v c.events) (hw : RcWf c) :
    Calls Tryz.prog 20 #[.agg #[.int .i64 c.client, .int .i64 c.seq, .string (str c.stream), .int .i64 c.code, v]] w fun e w' => e = .returned (.tuple #[.string (str (putS (recP c) (layRec c))), .int .i64 (putE (recP c))]) ∧ Below w.heap.size w w' := by
  have M0 := fun W (hv : EvsIs W v c.events) => mayRecord_any c v W hv hw
  have M1 := fun (hp : recP c = true) W (hv : EvsIs W v c.events) => layRecP_any c v W hv hw (rec_small hp).1 (rec_small hp).2.1 (rec_small hp).2.2
  obtain ⟨b, hb⟩ : ∃ b, recP c = b := ⟨_, rfl⟩
  rw [hb] at M0 M1 ⊢
  generalize layRec c = R at M1 ⊢
  obtain ⟨n0, n1, t, n3, sl⟩ := c
  dsimp only at h M0 M1 ⊢
  clear hb hw
  have HV := Lib.hid (fun W (hb : Below w.heap.size w W) => h.below hb)
  obtain ⟨a, cap, rfl, -⟩ := h.open
  obtain ⟨L, hL⟩ : ∃ L, sl.length = L := ⟨_, rfl⟩
  rw [hL] at HV M0 M1 ⊢
  have H0 := Lib.hid M0
  have H1 := Lib.hid M1
  clear M0 M1 hL
  have HP : ∀ w : World, (∀ W, Below w.heap.size w W → EvsIs W (.slice a L cap) sl) → Calls Tryz.prog 53 #[.agg #[.int .i64 n0, .int .i64 n1, .string (str t), .int .i64 n3, .slice a L cap], .func (.func 54) #[] #[], .func (.func 55) #[] #[]] w fun e w' => e = .returned (.tuple #[.string (str (putS b R)), .int .i64 (putE b)]) ∧ Below w.heap.size w w' := by
    intro w HV
    have HV := Lib.hid HV
    obtain ⟨W0, hW0⟩ : ∃ W0, w.alloc (.cells #[.int .i64 n0, .int .i64 n1, .string (str t), .int .i64 n3, .slice a L cap] 44) = W0 := ⟨_, rfl⟩
    have hB0 : Below w.heap.size w W0 := by rw [← hW0]; exact below_alloc _ _
    have k0 : W0.cell? ⟨w.heap.size, 0, none⟩ = some (.int .i64 n0) := by rw [← hW0]; exact alloc_cell w [_, _, _, _, _] _ 0 _ rfl
    have k1 : W0.cell? ⟨w.heap.size, 1, none⟩ = some (.int .i64 n1) := by rw [← hW0]; exact alloc_cell w [_, _, _, _, _] _ 1 _ rfl
    have k2 : W0.cell? ⟨w.heap.size, 2, none⟩ = some (.string (str t)) := by rw [← hW0]; exact alloc_cell w [_, _, _, _, _] _ 2 _ rfl
    have k3 : W0.cell? ⟨w.heap.size, 3, none⟩ = some (.int .i64 n3) := by rw [← hW0]; exact alloc_cell w [_, _, _, _, _] _ 3 _ rfl
    have k4 : W0.cell? ⟨w.heap.size, 4, none⟩ = some (.slice a L cap) := by rw [← hW0]; exact alloc_cell w [_, _, _, _, _] _ 4 _ rfl
    have HB0 := Lib.hid hB0
    clear hB0
    go_enter Tryz.func53, Tryz.ntmps53
    go_wp2_with fail
    refine (H0.out _ (HV.out _ HB0.out)).mono ?_
    rintro _ w1 ⟨rfl, hb1⟩
    have k0 := kept_cell hb1 k0
    have k1 := kept_cell hb1 k1
    have k2 := kept_cell hb1 k2
    have k3 := kept_cell hb1 k3
    have k4 := kept_cell hb1 k4
    have HB1 := Lib.hid (HB0.out.trans (hb1.mono HB0.out.size))
    clear hb1 hW0
    cases b with
    | false =>
      go_wp2_with fail
      go_ret2
      exact ⟨rfl, HB1.out⟩
    | true =>
      go_wp2_with fail
      refine (H1.out (by simp) _ (HV.out _ HB1.out)).mono ?_
      rintro _ w2 ⟨rfl, hb2⟩
      have HB2 := Lib.hid hb2
      clear hb2
      go_wp2_with fail
      go_ret2
      exact ⟨rfl, HB1.out.trans (HB2.out.mono HB1.out.size)⟩
  obtain ⟨W0, hW0⟩ : ∃ W0, w.alloc (.cells #[.int .i64 n0, .int .i64 n1, .string (str t), .int .i64 n3, .slice a L cap] 44) = W0 := ⟨_, rfl⟩
  have hB0 : Below w.heap.size w W0 := by rw [← hW0]; exact below_alloc _ _
  have k0 : W0.cell? ⟨w.heap.size, 0, none⟩ = some (.int .i64 n0) := by rw [← hW0]; exact alloc_cell w [_, _, _, _, _] _ 0 _ rfl
  have k1 : W0.cell? ⟨w.heap.size, 1, none⟩ = some (.int .i64 n1) := by rw [← hW0]; exact alloc_cell w [_, _, _, _, _] _ 1 _ rfl
  have k2 : W0.cell? ⟨w.heap.size, 2, none⟩ = some (.string (str t)) := by rw [← hW0]; exact alloc_cell w [_, _, _, _, _] _ 2 _ rfl
  have k3 : W0.cell? ⟨w.heap.size, 3, none⟩ = some (.int .i64 n3) := by rw [← hW0]; exact alloc_cell w [_, _, _, _, _] _ 3 _ rfl
  have k4 : W0.cell? ⟨w.heap.size, 4, none⟩ = some (.slice a L cap) := by rw [← hW0]; exact alloc_cell w [_, _, _, _, _] _ 4 _ rfl
  have HPP := Lib.hid (HP W0 (fun W hb => HV.out W (hB0.trans (hb.mono hB0.size))))
  have HB0 := Lib.hid hB0
  clear hB0 HP
  generalize putS b R = R1 at HPP ⊢
  generalize putE b = E1 at HPP ⊢
  go_enter Tryz.func20, Tryz.ntmps20
  go_wp2_with fail
  refine HPP.out.mono ?_
  rintro _ w1 ⟨rfl, hb1⟩
  have HB1 := Lib.hid (HB0.out.trans (hb1.mono HB0.out.size))
  clear hb1 hW0
  go_wp2_with fail
  go_ret2
  exact ⟨rfl, HB1.out⟩
end Go.Proofs.YtebglkpejdoggaaGreat.C10
