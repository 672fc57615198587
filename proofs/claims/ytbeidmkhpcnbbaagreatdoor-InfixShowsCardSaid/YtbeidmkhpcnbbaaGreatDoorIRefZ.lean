/-
  Contracts of the reference of layer 4: plain, of a sign between two operands (comparisons, and, or).
  Contracts of the reference of layer 4: plain, of if; and of every expression.
-/
import Derived.Test.YtbeidmkhpcnbbaaGreatDoorIRefY
namespace Go.Proofs.YtbeidmkhpcnbbaaGreatDoor.I
open Go Go.RowKit Go.Proofs.YtbeidmkhpcnbbaaGreatDoor.B Go.Proofs.YtbeidmkhpcnbbaaGreatDoor.K Go.Proofs.YtbeidmkhpcnbbaaGreatDoor.E
set_option linter.unusedVariables false

set_option maxRecDepth 100000 in
set_option maxHeartbeats 1600000 in
theorem plain_bin11 (vs : List Bs) (nv na : Int) (e f : Ex) (hw : WF nv na (.bin 11 e f)) (hp : Plains vs e) (hq : Plains vs f) (hl1 : (text vs e).length ≤ 2305843009213693000) (hl2 : (text vs f).length ≤ 2305843009213693000) : Plains vs (.bin 11 e f) := by
  intro w s v ht hn
  obtain ⟨a, cap, rfl⟩ := names_len hn
  have HRK := Lib.hid (fun W => (show Calls Tryz.prog 32 #[.agg #[.int .i64 11, .int .i64 0, s]] W fun f w' => f = .returned (.int .i64 3) ∧ Below W.heap.size W w' from refRank_any nv na (.bin 11 e f) hw s W))
  obtain ⟨-, -, g, off, kcap, o1, x1, s1, o2, x2, s2, rfl, k0, k1, k2, t1, l0, l1, l2, t2⟩ := ht
  obtain ⟨rfl, rfl⟩ := t1.root
  obtain ⟨rfl, rfl⟩ := t2.root
  simp only [opOf, nOf]
  have htx : text vs (.bin 11 e f) = shw vs e 4 ++ [32] ++ [60] ++ [32] ++ shw vs f 4 := by rw [← shw_eq, ← shw_eq]; unfold text; rw [pieces, if_neg (by decide)]; show (wrap (rank e) 4 _ ++ [[32], sign 11, [32]] ++ wrap (rank f) 4 _).flatten = _; simp [show sign 11 = [60] from rfl]
  have HP1 := Lib.hid (fun (W : World) (h : (W.cell? ⟨w.heap.size, 0, none⟩ = some (Value.int .i64 11) ∧ W.cell? ⟨w.heap.size + 1, 11, none⟩ = some (Value.string (ByteArray.mk #[60])) ∧ W.cell? ⟨w.heap.size, 2, none⟩ = some (Value.slice (some ⟨g, off, none⟩) 2 kcap) ∧ W.cell? ⟨g, off, none⟩ = some (Value.int .i64 (opOf e)) ∧ W.cell? ⟨g, off + 1, none⟩ = some (Value.int .i64 (nOf e)) ∧ W.cell? ⟨g, off + 2, none⟩ = some s1 ∧ W.cell? ⟨g, off + 3, none⟩ = some (Value.int .i64 (opOf f)) ∧ W.cell? ⟨g, off + 4, none⟩ = some (Value.int .i64 (nOf f)) ∧ W.cell? ⟨g, off + 5, none⟩ = some s2 ∧ Below w.heap.size w W)) => (show Calls Tryz.prog 34 #[.agg #[.int .i64 (opOf e), .int .i64 (nOf e), s1], .int .i64 4, .slice a vs.length cap] W fun r w' => r = .returned (.string (str (shw vs e 4))) ∧ (w'.cell? ⟨w.heap.size, 0, none⟩ = some (Value.int .i64 11) ∧ w'.cell? ⟨w.heap.size + 1, 11, none⟩ = some (Value.string (ByteArray.mk #[60])) ∧ w'.cell? ⟨w.heap.size, 2, none⟩ = some (Value.slice (some ⟨g, off, none⟩) 2 kcap) ∧ w'.cell? ⟨g, off, none⟩ = some (Value.int .i64 (opOf e)) ∧ w'.cell? ⟨g, off + 1, none⟩ = some (Value.int .i64 (nOf e)) ∧ w'.cell? ⟨g, off + 2, none⟩ = some s1 ∧ w'.cell? ⟨g, off + 3, none⟩ = some (Value.int .i64 (opOf f)) ∧ w'.cell? ⟨g, off + 4, none⟩ = some (Value.int .i64 (nOf f)) ∧ w'.cell? ⟨g, off + 5, none⟩ = some s2 ∧ Below w.heap.size w w') from (refShown_of vs nv na e hw.2.1 hp 4 (by decide) (by omega) W s1 (.slice a vs.length cap) (t1.below h.2.2.2.2.2.2.2.2.2 e) (Sl.below hn h.2.2.2.2.2.2.2.2.2)).mono (fun _ (w' : World) ⟨h1, h2⟩ => (⟨h1, cell_kept h2 h.1, cell_kept h2 h.2.1, S2.next h.2.2 h2⟩ : _ ∧ (w'.cell? ⟨w.heap.size, 0, none⟩ = some (Value.int .i64 11) ∧ w'.cell? ⟨w.heap.size + 1, 11, none⟩ = some (Value.string (ByteArray.mk #[60])) ∧ w'.cell? ⟨w.heap.size, 2, none⟩ = some (Value.slice (some ⟨g, off, none⟩) 2 kcap) ∧ w'.cell? ⟨g, off, none⟩ = some (Value.int .i64 (opOf e)) ∧ w'.cell? ⟨g, off + 1, none⟩ = some (Value.int .i64 (nOf e)) ∧ w'.cell? ⟨g, off + 2, none⟩ = some s1 ∧ w'.cell? ⟨g, off + 3, none⟩ = some (Value.int .i64 (opOf f)) ∧ w'.cell? ⟨g, off + 4, none⟩ = some (Value.int .i64 (nOf f)) ∧ w'.cell? ⟨g, off + 5, none⟩ = some s2 ∧ Below w.heap.size w w')))))
  have HP2 := Lib.hid (fun (W : World) (h : (W.cell? ⟨w.heap.size, 0, none⟩ = some (Value.int .i64 11) ∧ W.cell? ⟨w.heap.size + 1, 11, none⟩ = some (Value.string (ByteArray.mk #[60])) ∧ W.cell? ⟨w.heap.size, 2, none⟩ = some (Value.slice (some ⟨g, off, none⟩) 2 kcap) ∧ W.cell? ⟨g, off, none⟩ = some (Value.int .i64 (opOf e)) ∧ W.cell? ⟨g, off + 1, none⟩ = some (Value.int .i64 (nOf e)) ∧ W.cell? ⟨g, off + 2, none⟩ = some s1 ∧ W.cell? ⟨g, off + 3, none⟩ = some (Value.int .i64 (opOf f)) ∧ W.cell? ⟨g, off + 4, none⟩ = some (Value.int .i64 (nOf f)) ∧ W.cell? ⟨g, off + 5, none⟩ = some s2 ∧ Below w.heap.size w W)) => (show Calls Tryz.prog 34 #[.agg #[.int .i64 (opOf f), .int .i64 (nOf f), s2], .int .i64 4, .slice a vs.length cap] W fun r w' => r = .returned (.string (str (shw vs f 4))) ∧ (w'.cell? ⟨w.heap.size, 0, none⟩ = some (Value.int .i64 11) ∧ w'.cell? ⟨w.heap.size + 1, 11, none⟩ = some (Value.string (ByteArray.mk #[60])) ∧ w'.cell? ⟨w.heap.size, 2, none⟩ = some (Value.slice (some ⟨g, off, none⟩) 2 kcap) ∧ w'.cell? ⟨g, off, none⟩ = some (Value.int .i64 (opOf e)) ∧ w'.cell? ⟨g, off + 1, none⟩ = some (Value.int .i64 (nOf e)) ∧ w'.cell? ⟨g, off + 2, none⟩ = some s1 ∧ w'.cell? ⟨g, off + 3, none⟩ = some (Value.int .i64 (opOf f)) ∧ w'.cell? ⟨g, off + 4, none⟩ = some (Value.int .i64 (nOf f)) ∧ w'.cell? ⟨g, off + 5, none⟩ = some s2 ∧ Below w.heap.size w w') from (refShown_of vs nv na f hw.2.2 hq 4 (by decide) (by omega) W s2 (.slice a vs.length cap) (t2.below h.2.2.2.2.2.2.2.2.2 f) (Sl.below hn h.2.2.2.2.2.2.2.2.2)).mono (fun _ (w' : World) ⟨h1, h2⟩ => (⟨h1, cell_kept h2 h.1, cell_kept h2 h.2.1, S2.next h.2.2 h2⟩ : _ ∧ (w'.cell? ⟨w.heap.size, 0, none⟩ = some (Value.int .i64 11) ∧ w'.cell? ⟨w.heap.size + 1, 11, none⟩ = some (Value.string (ByteArray.mk #[60])) ∧ w'.cell? ⟨w.heap.size, 2, none⟩ = some (Value.slice (some ⟨g, off, none⟩) 2 kcap) ∧ w'.cell? ⟨g, off, none⟩ = some (Value.int .i64 (opOf e)) ∧ w'.cell? ⟨g, off + 1, none⟩ = some (Value.int .i64 (nOf e)) ∧ w'.cell? ⟨g, off + 2, none⟩ = some s1 ∧ w'.cell? ⟨g, off + 3, none⟩ = some (Value.int .i64 (opOf f)) ∧ w'.cell? ⟨g, off + 4, none⟩ = some (Value.int .i64 (nOf f)) ∧ w'.cell? ⟨g, off + 5, none⟩ = some s2 ∧ Below w.heap.size w w')))))
  have hsz1 : (shw vs e 4).length ≤ 2305843009213693002 := shw_len vs e 4 _ hl1
  have hsz2 : (shw vs f 4).length ≤ 2305843009213693002 := shw_len vs f 4 _ hl2
  obtain ⟨O1, hO1⟩ : ∃ O, opOf e = O := ⟨_, rfl⟩
  obtain ⟨X1, hX1⟩ : ∃ X, nOf e = X := ⟨_, rfl⟩
  obtain ⟨T1, hT1⟩ : ∃ T, shw vs e 4 = T := ⟨_, rfl⟩
  obtain ⟨O2, hO2⟩ : ∃ O, opOf f = O := ⟨_, rfl⟩
  obtain ⟨X2, hX2⟩ : ∃ X, nOf f = X := ⟨_, rfl⟩
  obtain ⟨T2, hT2⟩ : ∃ T, shw vs f 4 = T := ⟨_, rfl⟩
  rw [hO1, hX1, hO2, hX2] at HP1 HP2
  rw [hT1] at HP1 htx hsz1
  rw [hT2] at HP2 htx hsz2
  rw [hO1] at k0
  rw [hX1] at k1
  rw [hO2] at l0
  rw [hX2] at l1
  obtain ⟨U1, hU1⟩ : ∃ U, T1 ++ ([32] : Bs) = U := ⟨_, rfl⟩
  obtain ⟨U2, hU2⟩ : ∃ U, U1 ++ [60] = U := ⟨_, rfl⟩
  obtain ⟨U3, hU3⟩ : ∃ U, U2 ++ [32] = U := ⟨_, rfl⟩
  obtain ⟨U4, hU4⟩ : ∃ U, U3 ++ T2 = U := ⟨_, rfl⟩
  rw [hU1, hU2, hU3, hU4] at htx
  have z1 : U1.length = T1.length + 1 := by rw [← hU1]; simp
  have z2 : U2.length = U1.length + 1 := by rw [← hU2]; simp
  have z3 : U3.length = U2.length + 1 := by rw [← hU3]; simp
  have e1 : ∀ W, (Op.stringOp .add (str T1) (ByteArray.mk #[32])).run Tryz.prog W = .ok (.string (str U1)) W := fun W => by rw [run_string_add_sum W _ _ (by rw [str_size]; show _ + 1 ≤ _; omega), ← hU1, ← str_append]; rfl
  have e2 : ∀ W, (Op.stringOp .add (str U1) (ByteArray.mk #[60])).run Tryz.prog W = .ok (.string (str U2)) W := fun W => by rw [run_string_add_sum W _ _ (by rw [str_size]; show _ + 1 ≤ _; omega), ← hU2, ← str_append]; rfl
  have e3 : ∀ W, (Op.stringOp .add (str U2) (ByteArray.mk #[32])).run Tryz.prog W = .ok (.string (str U3)) W := fun W => by rw [run_string_add_sum W _ _ (by rw [str_size]; show _ + 1 ≤ _; omega), ← hU3, ← str_append]; rfl
  have e4 : ∀ W, (Op.stringOp .add (str U3) (str T2)).run Tryz.prog W = .ok (.string (str U4)) W := fun W => by rw [run_string_add_sum W _ _ (by rw [str_size, str_size]; omega), ← hU4, ← str_append]
  have hwr : IntKind.i64.wrap 4 = 4 := by decide
  have HTX := Lib.hid htx
  clear hU1 hU2 hU3 hU4 z1 z2 z3 hsz1 hsz2
  have K0 := Lib.hid k0
  have K1 := Lib.hid k1
  have K2 := Lib.hid k2
  have L0 := Lib.hid l0
  have L1 := Lib.hid l1
  have L2 := Lib.hid l2
  clear htx hn k0 k1 k2 t1 l0 l1 l2 t2 hO1 hX1 hT1 hO2 hX2 hT2 hl1 hl2 hp hq hw
  go_enter Tryz.func13, Tryz.ntmps13
  go_wp2_with fail
  refine (HRK.out _).mono ?_
  rintro _ w1 ⟨rfl, hb1⟩
  have csg := sign_cell hb1 (k := 11) (u := Value.string (ByteArray.mk #[60])) rfl
  obtain ⟨c0, c1, c2, hbw⟩ := box_cells (below_box _ _ _ _ hb1)
  have HB1 := Lib.hid hbw
  clear hb1 hbw
  go_upto_region 27 with fail
  have hS0 : (w1.drew.cell? ⟨w.heap.size, 0, none⟩ = some (Value.int .i64 11) ∧ w1.drew.cell? ⟨w.heap.size + 1, 11, none⟩ = some (Value.string (ByteArray.mk #[60])) ∧ w1.drew.cell? ⟨w.heap.size, 2, none⟩ = some (Value.slice (some ⟨g, off, none⟩) 2 kcap) ∧ w1.drew.cell? ⟨g, off, none⟩ = some (Value.int .i64 O1) ∧ w1.drew.cell? ⟨g, off + 1, none⟩ = some (Value.int .i64 X1) ∧ w1.drew.cell? ⟨g, off + 2, none⟩ = some s1 ∧ w1.drew.cell? ⟨g, off + 3, none⟩ = some (Value.int .i64 O2) ∧ w1.drew.cell? ⟨g, off + 4, none⟩ = some (Value.int .i64 X2) ∧ w1.drew.cell? ⟨g, off + 5, none⟩ = some s2 ∧ Below w.heap.size w w1.drew) := ⟨c0, csg, c2, cell_kept HB1.out.drew K0.out, cell_kept HB1.out.drew K1.out, cell_kept HB1.out.drew K2.out, cell_kept HB1.out.drew L0.out, cell_kept HB1.out.drew L1.out, cell_kept HB1.out.drew L2.out, HB1.out.drew⟩
  clear c0 c1 c2 csg
  go_region_held3 (fun W => (W.cell? ⟨w.heap.size, 0, none⟩ = some (Value.int .i64 11) ∧ W.cell? ⟨w.heap.size + 1, 11, none⟩ = some (Value.string (ByteArray.mk #[60])) ∧ W.cell? ⟨w.heap.size, 2, none⟩ = some (Value.slice (some ⟨g, off, none⟩) 2 kcap) ∧ W.cell? ⟨g, off, none⟩ = some (Value.int .i64 O1) ∧ W.cell? ⟨g, off + 1, none⟩ = some (Value.int .i64 X1) ∧ W.cell? ⟨g, off + 2, none⟩ = some s1 ∧ W.cell? ⟨g, off + 3, none⟩ = some (Value.int .i64 O2) ∧ W.cell? ⟨g, off + 4, none⟩ = some (Value.int .i64 X2) ∧ W.cell? ⟨g, off + 5, none⟩ = some s2 ∧ Below w.heap.size w W)) (first | exact hS0 | assumption) (first | (go_at_call 34; ((with_reducible refine (HP1.out _ ?_).mono ?_); (first | exact hS0 | assumption)); rintro _ w3 ⟨rfl, hS3⟩) | (go_at_call 34; ((with_reducible refine (HP2.out _ ?_).mono ?_); (first | exact hS0 | assumption)); rintro _ w4 ⟨rfl, hS4⟩))
  all_goals
    go_wp2_with fail
    go_ret
    exact ⟨ret_str (by rw [HTX.out]), by first | exact hS4.2.2.2.2.2.2.2.2.2 | exact hS3.2.2.2.2.2.2.2.2.2⟩

set_option maxRecDepth 100000 in
set_option maxHeartbeats 1600000 in
theorem plain_bin12 (vs : List Bs) (nv na : Int) (e f : Ex) (hw : WF nv na (.bin 12 e f)) (hp : Plains vs e) (hq : Plains vs f) (hl1 : (text vs e).length ≤ 2305843009213693000) (hl2 : (text vs f).length ≤ 2305843009213693000) : Plains vs (.bin 12 e f) := by
  intro w s v ht hn
  obtain ⟨a, cap, rfl⟩ := names_len hn
  have HRK := Lib.hid (fun W => (show Calls Tryz.prog 32 #[.agg #[.int .i64 12, .int .i64 0, s]] W fun f w' => f = .returned (.int .i64 3) ∧ Below W.heap.size W w' from refRank_any nv na (.bin 12 e f) hw s W))
  obtain ⟨-, -, g, off, kcap, o1, x1, s1, o2, x2, s2, rfl, k0, k1, k2, t1, l0, l1, l2, t2⟩ := ht
  obtain ⟨rfl, rfl⟩ := t1.root
  obtain ⟨rfl, rfl⟩ := t2.root
  simp only [opOf, nOf]
  have htx : text vs (.bin 12 e f) = shw vs e 4 ++ [32] ++ [60, 61] ++ [32] ++ shw vs f 4 := by rw [← shw_eq, ← shw_eq]; unfold text; rw [pieces, if_neg (by decide)]; show (wrap (rank e) 4 _ ++ [[32], sign 12, [32]] ++ wrap (rank f) 4 _).flatten = _; simp [show sign 12 = [60, 61] from rfl]
  have HP1 := Lib.hid (fun (W : World) (h : (W.cell? ⟨w.heap.size, 0, none⟩ = some (Value.int .i64 12) ∧ W.cell? ⟨w.heap.size + 1, 12, none⟩ = some (Value.string (ByteArray.mk #[60, 61])) ∧ W.cell? ⟨w.heap.size, 2, none⟩ = some (Value.slice (some ⟨g, off, none⟩) 2 kcap) ∧ W.cell? ⟨g, off, none⟩ = some (Value.int .i64 (opOf e)) ∧ W.cell? ⟨g, off + 1, none⟩ = some (Value.int .i64 (nOf e)) ∧ W.cell? ⟨g, off + 2, none⟩ = some s1 ∧ W.cell? ⟨g, off + 3, none⟩ = some (Value.int .i64 (opOf f)) ∧ W.cell? ⟨g, off + 4, none⟩ = some (Value.int .i64 (nOf f)) ∧ W.cell? ⟨g, off + 5, none⟩ = some s2 ∧ Below w.heap.size w W)) => (show Calls Tryz.prog 34 #[.agg #[.int .i64 (opOf e), .int .i64 (nOf e), s1], .int .i64 4, .slice a vs.length cap] W fun r w' => r = .returned (.string (str (shw vs e 4))) ∧ (w'.cell? ⟨w.heap.size, 0, none⟩ = some (Value.int .i64 12) ∧ w'.cell? ⟨w.heap.size + 1, 12, none⟩ = some (Value.string (ByteArray.mk #[60, 61])) ∧ w'.cell? ⟨w.heap.size, 2, none⟩ = some (Value.slice (some ⟨g, off, none⟩) 2 kcap) ∧ w'.cell? ⟨g, off, none⟩ = some (Value.int .i64 (opOf e)) ∧ w'.cell? ⟨g, off + 1, none⟩ = some (Value.int .i64 (nOf e)) ∧ w'.cell? ⟨g, off + 2, none⟩ = some s1 ∧ w'.cell? ⟨g, off + 3, none⟩ = some (Value.int .i64 (opOf f)) ∧ w'.cell? ⟨g, off + 4, none⟩ = some (Value.int .i64 (nOf f)) ∧ w'.cell? ⟨g, off + 5, none⟩ = some s2 ∧ Below w.heap.size w w') from (refShown_of vs nv na e hw.2.1 hp 4 (by decide) (by omega) W s1 (.slice a vs.length cap) (t1.below h.2.2.2.2.2.2.2.2.2 e) (Sl.below hn h.2.2.2.2.2.2.2.2.2)).mono (fun _ (w' : World) ⟨h1, h2⟩ => (⟨h1, cell_kept h2 h.1, cell_kept h2 h.2.1, S2.next h.2.2 h2⟩ : _ ∧ (w'.cell? ⟨w.heap.size, 0, none⟩ = some (Value.int .i64 12) ∧ w'.cell? ⟨w.heap.size + 1, 12, none⟩ = some (Value.string (ByteArray.mk #[60, 61])) ∧ w'.cell? ⟨w.heap.size, 2, none⟩ = some (Value.slice (some ⟨g, off, none⟩) 2 kcap) ∧ w'.cell? ⟨g, off, none⟩ = some (Value.int .i64 (opOf e)) ∧ w'.cell? ⟨g, off + 1, none⟩ = some (Value.int .i64 (nOf e)) ∧ w'.cell? ⟨g, off + 2, none⟩ = some s1 ∧ w'.cell? ⟨g, off + 3, none⟩ = some (Value.int .i64 (opOf f)) ∧ w'.cell? ⟨g, off + 4, none⟩ = some (Value.int .i64 (nOf f)) ∧ w'.cell? ⟨g, off + 5, none⟩ = some s2 ∧ Below w.heap.size w w')))))
  have HP2 := Lib.hid (fun (W : World) (h : (W.cell? ⟨w.heap.size, 0, none⟩ = some (Value.int .i64 12) ∧ W.cell? ⟨w.heap.size + 1, 12, none⟩ = some (Value.string (ByteArray.mk #[60, 61])) ∧ W.cell? ⟨w.heap.size, 2, none⟩ = some (Value.slice (some ⟨g, off, none⟩) 2 kcap) ∧ W.cell? ⟨g, off, none⟩ = some (Value.int .i64 (opOf e)) ∧ W.cell? ⟨g, off + 1, none⟩ = some (Value.int .i64 (nOf e)) ∧ W.cell? ⟨g, off + 2, none⟩ = some s1 ∧ W.cell? ⟨g, off + 3, none⟩ = some (Value.int .i64 (opOf f)) ∧ W.cell? ⟨g, off + 4, none⟩ = some (Value.int .i64 (nOf f)) ∧ W.cell? ⟨g, off + 5, none⟩ = some s2 ∧ Below w.heap.size w W)) => (show Calls Tryz.prog 34 #[.agg #[.int .i64 (opOf f), .int .i64 (nOf f), s2], .int .i64 4, .slice a vs.length cap] W fun r w' => r = .returned (.string (str (shw vs f 4))) ∧ (w'.cell? ⟨w.heap.size, 0, none⟩ = some (Value.int .i64 12) ∧ w'.cell? ⟨w.heap.size + 1, 12, none⟩ = some (Value.string (ByteArray.mk #[60, 61])) ∧ w'.cell? ⟨w.heap.size, 2, none⟩ = some (Value.slice (some ⟨g, off, none⟩) 2 kcap) ∧ w'.cell? ⟨g, off, none⟩ = some (Value.int .i64 (opOf e)) ∧ w'.cell? ⟨g, off + 1, none⟩ = some (Value.int .i64 (nOf e)) ∧ w'.cell? ⟨g, off + 2, none⟩ = some s1 ∧ w'.cell? ⟨g, off + 3, none⟩ = some (Value.int .i64 (opOf f)) ∧ w'.cell? ⟨g, off + 4, none⟩ = some (Value.int .i64 (nOf f)) ∧ w'.cell? ⟨g, off + 5, none⟩ = some s2 ∧ Below w.heap.size w w') from (refShown_of vs nv na f hw.2.2 hq 4 (by decide) (by omega) W s2 (.slice a vs.length cap) (t2.below h.2.2.2.2.2.2.2.2.2 f) (Sl.below hn h.2.2.2.2.2.2.2.2.2)).mono (fun _ (w' : World) ⟨h1, h2⟩ => (⟨h1, cell_kept h2 h.1, cell_kept h2 h.2.1, S2.next h.2.2 h2⟩ : _ ∧ (w'.cell? ⟨w.heap.size, 0, none⟩ = some (Value.int .i64 12) ∧ w'.cell? ⟨w.heap.size + 1, 12, none⟩ = some (Value.string (ByteArray.mk #[60, 61])) ∧ w'.cell? ⟨w.heap.size, 2, none⟩ = some (Value.slice (some ⟨g, off, none⟩) 2 kcap) ∧ w'.cell? ⟨g, off, none⟩ = some (Value.int .i64 (opOf e)) ∧ w'.cell? ⟨g, off + 1, none⟩ = some (Value.int .i64 (nOf e)) ∧ w'.cell? ⟨g, off + 2, none⟩ = some s1 ∧ w'.cell? ⟨g, off + 3, none⟩ = some (Value.int .i64 (opOf f)) ∧ w'.cell? ⟨g, off + 4, none⟩ = some (Value.int .i64 (nOf f)) ∧ w'.cell? ⟨g, off + 5, none⟩ = some s2 ∧ Below w.heap.size w w')))))
  have hsz1 : (shw vs e 4).length ≤ 2305843009213693002 := shw_len vs e 4 _ hl1
  have hsz2 : (shw vs f 4).length ≤ 2305843009213693002 := shw_len vs f 4 _ hl2
  obtain ⟨O1, hO1⟩ : ∃ O, opOf e = O := ⟨_, rfl⟩
  obtain ⟨X1, hX1⟩ : ∃ X, nOf e = X := ⟨_, rfl⟩
  obtain ⟨T1, hT1⟩ : ∃ T, shw vs e 4 = T := ⟨_, rfl⟩
  obtain ⟨O2, hO2⟩ : ∃ O, opOf f = O := ⟨_, rfl⟩
  obtain ⟨X2, hX2⟩ : ∃ X, nOf f = X := ⟨_, rfl⟩
  obtain ⟨T2, hT2⟩ : ∃ T, shw vs f 4 = T := ⟨_, rfl⟩
  rw [hO1, hX1, hO2, hX2] at HP1 HP2
  rw [hT1] at HP1 htx hsz1
  rw [hT2] at HP2 htx hsz2
  rw [hO1] at k0
  rw [hX1] at k1
  rw [hO2] at l0
  rw [hX2] at l1
  obtain ⟨U1, hU1⟩ : ∃ U, T1 ++ ([32] : Bs) = U := ⟨_, rfl⟩
  obtain ⟨U2, hU2⟩ : ∃ U, U1 ++ [60, 61] = U := ⟨_, rfl⟩
  obtain ⟨U3, hU3⟩ : ∃ U, U2 ++ [32] = U := ⟨_, rfl⟩
  obtain ⟨U4, hU4⟩ : ∃ U, U3 ++ T2 = U := ⟨_, rfl⟩
  rw [hU1, hU2, hU3, hU4] at htx
  have z1 : U1.length = T1.length + 1 := by rw [← hU1]; simp
  have z2 : U2.length = U1.length + 2 := by rw [← hU2]; simp
  have z3 : U3.length = U2.length + 1 := by rw [← hU3]; simp
  have e1 : ∀ W, (Op.stringOp .add (str T1) (ByteArray.mk #[32])).run Tryz.prog W = .ok (.string (str U1)) W := fun W => by rw [run_string_add_sum W _ _ (by rw [str_size]; show _ + 1 ≤ _; omega), ← hU1, ← str_append]; rfl
  have e2 : ∀ W, (Op.stringOp .add (str U1) (ByteArray.mk #[60, 61])).run Tryz.prog W = .ok (.string (str U2)) W := fun W => by rw [run_string_add_sum W _ _ (by rw [str_size]; show _ + 2 ≤ _; omega), ← hU2, ← str_append]; rfl
  have e3 : ∀ W, (Op.stringOp .add (str U2) (ByteArray.mk #[32])).run Tryz.prog W = .ok (.string (str U3)) W := fun W => by rw [run_string_add_sum W _ _ (by rw [str_size]; show _ + 1 ≤ _; omega), ← hU3, ← str_append]; rfl
  have e4 : ∀ W, (Op.stringOp .add (str U3) (str T2)).run Tryz.prog W = .ok (.string (str U4)) W := fun W => by rw [run_string_add_sum W _ _ (by rw [str_size, str_size]; omega), ← hU4, ← str_append]
  have hwr : IntKind.i64.wrap 4 = 4 := by decide
  have HTX := Lib.hid htx
  clear hU1 hU2 hU3 hU4 z1 z2 z3 hsz1 hsz2
  have K0 := Lib.hid k0
  have K1 := Lib.hid k1
  have K2 := Lib.hid k2
  have L0 := Lib.hid l0
  have L1 := Lib.hid l1
  have L2 := Lib.hid l2
  clear htx hn k0 k1 k2 t1 l0 l1 l2 t2 hO1 hX1 hT1 hO2 hX2 hT2 hl1 hl2 hp hq hw
  go_enter Tryz.func13, Tryz.ntmps13
  go_wp2_with fail
  refine (HRK.out _).mono ?_
  rintro _ w1 ⟨rfl, hb1⟩
  have csg := sign_cell hb1 (k := 12) (u := Value.string (ByteArray.mk #[60, 61])) rfl
  obtain ⟨c0, c1, c2, hbw⟩ := box_cells (below_box _ _ _ _ hb1)
  have HB1 := Lib.hid hbw
  clear hb1 hbw
  go_upto_region 27 with fail
  have hS0 : (w1.drew.cell? ⟨w.heap.size, 0, none⟩ = some (Value.int .i64 12) ∧ w1.drew.cell? ⟨w.heap.size + 1, 12, none⟩ = some (Value.string (ByteArray.mk #[60, 61])) ∧ w1.drew.cell? ⟨w.heap.size, 2, none⟩ = some (Value.slice (some ⟨g, off, none⟩) 2 kcap) ∧ w1.drew.cell? ⟨g, off, none⟩ = some (Value.int .i64 O1) ∧ w1.drew.cell? ⟨g, off + 1, none⟩ = some (Value.int .i64 X1) ∧ w1.drew.cell? ⟨g, off + 2, none⟩ = some s1 ∧ w1.drew.cell? ⟨g, off + 3, none⟩ = some (Value.int .i64 O2) ∧ w1.drew.cell? ⟨g, off + 4, none⟩ = some (Value.int .i64 X2) ∧ w1.drew.cell? ⟨g, off + 5, none⟩ = some s2 ∧ Below w.heap.size w w1.drew) := ⟨c0, csg, c2, cell_kept HB1.out.drew K0.out, cell_kept HB1.out.drew K1.out, cell_kept HB1.out.drew K2.out, cell_kept HB1.out.drew L0.out, cell_kept HB1.out.drew L1.out, cell_kept HB1.out.drew L2.out, HB1.out.drew⟩
  clear c0 c1 c2 csg
  go_region_held3 (fun W => (W.cell? ⟨w.heap.size, 0, none⟩ = some (Value.int .i64 12) ∧ W.cell? ⟨w.heap.size + 1, 12, none⟩ = some (Value.string (ByteArray.mk #[60, 61])) ∧ W.cell? ⟨w.heap.size, 2, none⟩ = some (Value.slice (some ⟨g, off, none⟩) 2 kcap) ∧ W.cell? ⟨g, off, none⟩ = some (Value.int .i64 O1) ∧ W.cell? ⟨g, off + 1, none⟩ = some (Value.int .i64 X1) ∧ W.cell? ⟨g, off + 2, none⟩ = some s1 ∧ W.cell? ⟨g, off + 3, none⟩ = some (Value.int .i64 O2) ∧ W.cell? ⟨g, off + 4, none⟩ = some (Value.int .i64 X2) ∧ W.cell? ⟨g, off + 5, none⟩ = some s2 ∧ Below w.heap.size w W)) (first | exact hS0 | assumption) (first | (go_at_call 34; ((with_reducible refine (HP1.out _ ?_).mono ?_); (first | exact hS0 | assumption)); rintro _ w3 ⟨rfl, hS3⟩) | (go_at_call 34; ((with_reducible refine (HP2.out _ ?_).mono ?_); (first | exact hS0 | assumption)); rintro _ w4 ⟨rfl, hS4⟩))
  all_goals
    go_wp2_with fail
    go_ret
    exact ⟨ret_str (by rw [HTX.out]), by first | exact hS4.2.2.2.2.2.2.2.2.2 | exact hS3.2.2.2.2.2.2.2.2.2⟩

set_option maxRecDepth 100000 in
set_option maxHeartbeats 1600000 in
theorem plain_bin13 (vs : List Bs) (nv na : Int) (e f : Ex) (hw : WF nv na (.bin 13 e f)) (hp : Plains vs e) (hq : Plains vs f) (hl1 : (text vs e).length ≤ 2305843009213693000) (hl2 : (text vs f).length ≤ 2305843009213693000) : Plains vs (.bin 13 e f) := by
  intro w s v ht hn
  obtain ⟨a, cap, rfl⟩ := names_len hn
  have HRK := Lib.hid (fun W => (show Calls Tryz.prog 32 #[.agg #[.int .i64 13, .int .i64 0, s]] W fun f w' => f = .returned (.int .i64 3) ∧ Below W.heap.size W w' from refRank_any nv na (.bin 13 e f) hw s W))
  obtain ⟨-, -, g, off, kcap, o1, x1, s1, o2, x2, s2, rfl, k0, k1, k2, t1, l0, l1, l2, t2⟩ := ht
  obtain ⟨rfl, rfl⟩ := t1.root
  obtain ⟨rfl, rfl⟩ := t2.root
  simp only [opOf, nOf]
  have htx : text vs (.bin 13 e f) = shw vs e 4 ++ [32] ++ [61] ++ [32] ++ shw vs f 4 := by rw [← shw_eq, ← shw_eq]; unfold text; rw [pieces, if_neg (by decide)]; show (wrap (rank e) 4 _ ++ [[32], sign 13, [32]] ++ wrap (rank f) 4 _).flatten = _; simp [show sign 13 = [61] from rfl]
  have HP1 := Lib.hid (fun (W : World) (h : (W.cell? ⟨w.heap.size, 0, none⟩ = some (Value.int .i64 13) ∧ W.cell? ⟨w.heap.size + 1, 13, none⟩ = some (Value.string (ByteArray.mk #[61])) ∧ W.cell? ⟨w.heap.size, 2, none⟩ = some (Value.slice (some ⟨g, off, none⟩) 2 kcap) ∧ W.cell? ⟨g, off, none⟩ = some (Value.int .i64 (opOf e)) ∧ W.cell? ⟨g, off + 1, none⟩ = some (Value.int .i64 (nOf e)) ∧ W.cell? ⟨g, off + 2, none⟩ = some s1 ∧ W.cell? ⟨g, off + 3, none⟩ = some (Value.int .i64 (opOf f)) ∧ W.cell? ⟨g, off + 4, none⟩ = some (Value.int .i64 (nOf f)) ∧ W.cell? ⟨g, off + 5, none⟩ = some s2 ∧ Below w.heap.size w W)) => (show Calls Tryz.prog 34 #[.agg #[.int .i64 (opOf e), .int .i64 (nOf e), s1], .int .i64 4, .slice a vs.length cap] W fun r w' => r = .returned (.string (str (shw vs e 4))) ∧ (w'.cell? ⟨w.heap.size, 0, none⟩ = some (Value.int .i64 13) ∧ w'.cell? ⟨w.heap.size + 1, 13, none⟩ = some (Value.string (ByteArray.mk #[61])) ∧ w'.cell? ⟨w.heap.size, 2, none⟩ = some (Value.slice (some ⟨g, off, none⟩) 2 kcap) ∧ w'.cell? ⟨g, off, none⟩ = some (Value.int .i64 (opOf e)) ∧ w'.cell? ⟨g, off + 1, none⟩ = some (Value.int .i64 (nOf e)) ∧ w'.cell? ⟨g, off + 2, none⟩ = some s1 ∧ w'.cell? ⟨g, off + 3, none⟩ = some (Value.int .i64 (opOf f)) ∧ w'.cell? ⟨g, off + 4, none⟩ = some (Value.int .i64 (nOf f)) ∧ w'.cell? ⟨g, off + 5, none⟩ = some s2 ∧ Below w.heap.size w w') from (refShown_of vs nv na e hw.2.1 hp 4 (by decide) (by omega) W s1 (.slice a vs.length cap) (t1.below h.2.2.2.2.2.2.2.2.2 e) (Sl.below hn h.2.2.2.2.2.2.2.2.2)).mono (fun _ (w' : World) ⟨h1, h2⟩ => (⟨h1, cell_kept h2 h.1, cell_kept h2 h.2.1, S2.next h.2.2 h2⟩ : _ ∧ (w'.cell? ⟨w.heap.size, 0, none⟩ = some (Value.int .i64 13) ∧ w'.cell? ⟨w.heap.size + 1, 13, none⟩ = some (Value.string (ByteArray.mk #[61])) ∧ w'.cell? ⟨w.heap.size, 2, none⟩ = some (Value.slice (some ⟨g, off, none⟩) 2 kcap) ∧ w'.cell? ⟨g, off, none⟩ = some (Value.int .i64 (opOf e)) ∧ w'.cell? ⟨g, off + 1, none⟩ = some (Value.int .i64 (nOf e)) ∧ w'.cell? ⟨g, off + 2, none⟩ = some s1 ∧ w'.cell? ⟨g, off + 3, none⟩ = some (Value.int .i64 (opOf f)) ∧ w'.cell? ⟨g, off + 4, none⟩ = some (Value.int .i64 (nOf f)) ∧ w'.cell? ⟨g, off + 5, none⟩ = some s2 ∧ Below w.heap.size w w')))))
  have HP2 := Lib.hid (fun (W : World) (h : (W.cell? ⟨w.heap.size, 0, none⟩ = some (Value.int .i64 13) ∧ W.cell? ⟨w.heap.size + 1, 13, none⟩ = some (Value.string (ByteArray.mk #[61])) ∧ W.cell? ⟨w.heap.size, 2, none⟩ = some (Value.slice (some ⟨g, off, none⟩) 2 kcap) ∧ W.cell? ⟨g, off, none⟩ = some (Value.int .i64 (opOf e)) ∧ W.cell? ⟨g, off + 1, none⟩ = some (Value.int .i64 (nOf e)) ∧ W.cell? ⟨g, off + 2, none⟩ = some s1 ∧ W.cell? ⟨g, off + 3, none⟩ = some (Value.int .i64 (opOf f)) ∧ W.cell? ⟨g, off + 4, none⟩ = some (Value.int .i64 (nOf f)) ∧ W.cell? ⟨g, off + 5, none⟩ = some s2 ∧ Below w.heap.size w W)) => (show Calls Tryz.prog 34 #[.agg #[.int .i64 (opOf f), .int .i64 (nOf f), s2], .int .i64 4, .slice a vs.length cap] W fun r w' => r = .returned (.string (str (shw vs f 4))) ∧ (w'.cell? ⟨w.heap.size, 0, none⟩ = some (Value.int .i64 13) ∧ w'.cell? ⟨w.heap.size + 1, 13, none⟩ = some (Value.string (ByteArray.mk #[61])) ∧ w'.cell? ⟨w.heap.size, 2, none⟩ = some (Value.slice (some ⟨g, off, none⟩) 2 kcap) ∧ w'.cell? ⟨g, off, none⟩ = some (Value.int .i64 (opOf e)) ∧ w'.cell? ⟨g, off + 1, none⟩ = some (Value.int .i64 (nOf e)) ∧ w'.cell? ⟨g, off + 2, none⟩ = some s1 ∧ w'.cell? ⟨g, off + 3, none⟩ = some (Value.int .i64 (opOf f)) ∧ w'.cell? ⟨g, off + 4, none⟩ = some (Value.int .i64 (nOf f)) ∧ w'.cell? ⟨g, off + 5, none⟩ = some s2 ∧ Below w.heap.size w w') from (refShown_of vs nv na f hw.2.2 hq 4 (by decide) (by omega) W s2 (.slice a vs.length cap) (t2.below h.2.2.2.2.2.2.2.2.2 f) (Sl.below hn h.2.2.2.2.2.2.2.2.2)).mono (fun _ (w' : World) ⟨h1, h2⟩ => (⟨h1, cell_kept h2 h.1, cell_kept h2 h.2.1, S2.next h.2.2 h2⟩ : _ ∧ (w'.cell? ⟨w.heap.size, 0, none⟩ = some (Value.int .i64 13) ∧ w'.cell? ⟨w.heap.size + 1, 13, none⟩ = some (Value.string (ByteArray.mk #[61])) ∧ w'.cell? ⟨w.heap.size, 2, none⟩ = some (Value.slice (some ⟨g, off, none⟩) 2 kcap) ∧ w'.cell? ⟨g, off, none⟩ = some (Value.int .i64 (opOf e)) ∧ w'.cell? ⟨g, off + 1, none⟩ = some (Value.int .i64 (nOf e)) ∧ w'.cell? ⟨g, off + 2, none⟩ = some s1 ∧ w'.cell? ⟨g, off + 3, none⟩ = some (Value.int .i64 (opOf f)) ∧ w'.cell? ⟨g, off + 4, none⟩ = some (Value.int .i64 (nOf f)) ∧ w'.cell? ⟨g, off + 5, none⟩ = some s2 ∧ Below w.heap.size w w')))))
  have hsz1 : (shw vs e 4).length ≤ 2305843009213693002 := shw_len vs e 4 _ hl1
  have hsz2 : (shw vs f 4).length ≤ 2305843009213693002 := shw_len vs f 4 _ hl2
  obtain ⟨O1, hO1⟩ : ∃ O, opOf e = O := ⟨_, rfl⟩
  obtain ⟨X1, hX1⟩ : ∃ X, nOf e = X := ⟨_, rfl⟩
  obtain ⟨T1, hT1⟩ : ∃ T, shw vs e 4 = T := ⟨_, rfl⟩
  obtain ⟨O2, hO2⟩ : ∃ O, opOf f = O := ⟨_, rfl⟩
  obtain ⟨X2, hX2⟩ : ∃ X, nOf f = X := ⟨_, rfl⟩
  obtain ⟨T2, hT2⟩ : ∃ T, shw vs f 4 = T := ⟨_, rfl⟩
  rw [hO1, hX1, hO2, hX2] at HP1 HP2
  rw [hT1] at HP1 htx hsz1
  rw [hT2] at HP2 htx hsz2
  rw [hO1] at k0
  rw [hX1] at k1
  rw [hO2] at l0
  rw [hX2] at l1
  obtain ⟨U1, hU1⟩ : ∃ U, T1 ++ ([32] : Bs) = U := ⟨_, rfl⟩
  obtain ⟨U2, hU2⟩ : ∃ U, U1 ++ [61] = U := ⟨_, rfl⟩
  obtain ⟨U3, hU3⟩ : ∃ U, U2 ++ [32] = U := ⟨_, rfl⟩
  obtain ⟨U4, hU4⟩ : ∃ U, U3 ++ T2 = U := ⟨_, rfl⟩
  rw [hU1, hU2, hU3, hU4] at htx
  have z1 : U1.length = T1.length + 1 := by rw [← hU1]; simp
  have z2 : U2.length = U1.length + 1 := by rw [← hU2]; simp
  have z3 : U3.length = U2.length + 1 := by rw [← hU3]; simp
  have e1 : ∀ W, (Op.stringOp .add (str T1) (ByteArray.mk #[32])).run Tryz.prog W = .ok (.string (str U1)) W := fun W => by rw [run_string_add_sum W _ _ (by rw [str_size]; show _ + 1 ≤ _; omega), ← hU1, ← str_append]; rfl
  have e2 : ∀ W, (Op.stringOp .add (str U1) (ByteArray.mk #[61])).run Tryz.prog W = .ok (.string (str U2)) W := fun W => by rw [run_string_add_sum W _ _ (by rw [str_size]; show _ + 1 ≤ _; omega), ← hU2, ← str_append]; rfl
  have e3 : ∀ W, (Op.stringOp .add (str U2) (ByteArray.mk #[32])).run Tryz.prog W = .ok (.string (str U3)) W := fun W => by rw [run_string_add_sum W _ _ (by rw [str_size]; show _ + 1 ≤ _; omega), ← hU3, ← str_append]; rfl
  have e4 : ∀ W, (Op.stringOp .add (str U3) (str T2)).run Tryz.prog W = .ok (.string (str U4)) W := fun W => by rw [run_string_add_sum W _ _ (by rw [str_size, str_size]; omega), ← hU4, ← str_append]
  have hwr : IntKind.i64.wrap 4 = 4 := by decide
  have HTX := Lib.hid htx
  clear hU1 hU2 hU3 hU4 z1 z2 z3 hsz1 hsz2
  have K0 := Lib.hid k0
  have K1 := Lib.hid k1
  have K2 := Lib.hid k2
  have L0 := Lib.hid l0
  have L1 := Lib.hid l1
  have L2 := Lib.hid l2
  clear htx hn k0 k1 k2 t1 l0 l1 l2 t2 hO1 hX1 hT1 hO2 hX2 hT2 hl1 hl2 hp hq hw
  go_enter Tryz.func13, Tryz.ntmps13
  go_wp2_with fail
  refine (HRK.out _).mono ?_
  rintro _ w1 ⟨rfl, hb1⟩
  have csg := sign_cell hb1 (k := 13) (u := Value.string (ByteArray.mk #[61])) rfl
  obtain ⟨c0, c1, c2, hbw⟩ := box_cells (below_box _ _ _ _ hb1)
  have HB1 := Lib.hid hbw
  clear hb1 hbw
  go_upto_region 27 with fail
  have hS0 : (w1.drew.cell? ⟨w.heap.size, 0, none⟩ = some (Value.int .i64 13) ∧ w1.drew.cell? ⟨w.heap.size + 1, 13, none⟩ = some (Value.string (ByteArray.mk #[61])) ∧ w1.drew.cell? ⟨w.heap.size, 2, none⟩ = some (Value.slice (some ⟨g, off, none⟩) 2 kcap) ∧ w1.drew.cell? ⟨g, off, none⟩ = some (Value.int .i64 O1) ∧ w1.drew.cell? ⟨g, off + 1, none⟩ = some (Value.int .i64 X1) ∧ w1.drew.cell? ⟨g, off + 2, none⟩ = some s1 ∧ w1.drew.cell? ⟨g, off + 3, none⟩ = some (Value.int .i64 O2) ∧ w1.drew.cell? ⟨g, off + 4, none⟩ = some (Value.int .i64 X2) ∧ w1.drew.cell? ⟨g, off + 5, none⟩ = some s2 ∧ Below w.heap.size w w1.drew) := ⟨c0, csg, c2, cell_kept HB1.out.drew K0.out, cell_kept HB1.out.drew K1.out, cell_kept HB1.out.drew K2.out, cell_kept HB1.out.drew L0.out, cell_kept HB1.out.drew L1.out, cell_kept HB1.out.drew L2.out, HB1.out.drew⟩
  clear c0 c1 c2 csg
  go_region_held3 (fun W => (W.cell? ⟨w.heap.size, 0, none⟩ = some (Value.int .i64 13) ∧ W.cell? ⟨w.heap.size + 1, 13, none⟩ = some (Value.string (ByteArray.mk #[61])) ∧ W.cell? ⟨w.heap.size, 2, none⟩ = some (Value.slice (some ⟨g, off, none⟩) 2 kcap) ∧ W.cell? ⟨g, off, none⟩ = some (Value.int .i64 O1) ∧ W.cell? ⟨g, off + 1, none⟩ = some (Value.int .i64 X1) ∧ W.cell? ⟨g, off + 2, none⟩ = some s1 ∧ W.cell? ⟨g, off + 3, none⟩ = some (Value.int .i64 O2) ∧ W.cell? ⟨g, off + 4, none⟩ = some (Value.int .i64 X2) ∧ W.cell? ⟨g, off + 5, none⟩ = some s2 ∧ Below w.heap.size w W)) (first | exact hS0 | assumption) (first | (go_at_call 34; ((with_reducible refine (HP1.out _ ?_).mono ?_); (first | exact hS0 | assumption)); rintro _ w3 ⟨rfl, hS3⟩) | (go_at_call 34; ((with_reducible refine (HP2.out _ ?_).mono ?_); (first | exact hS0 | assumption)); rintro _ w4 ⟨rfl, hS4⟩))
  all_goals
    go_wp2_with fail
    go_ret
    exact ⟨ret_str (by rw [HTX.out]), by first | exact hS4.2.2.2.2.2.2.2.2.2 | exact hS3.2.2.2.2.2.2.2.2.2⟩

set_option maxRecDepth 100000 in
set_option maxHeartbeats 1600000 in
theorem plain_bin14 (vs : List Bs) (nv na : Int) (e f : Ex) (hw : WF nv na (.bin 14 e f)) (hp : Plains vs e) (hq : Plains vs f) (hl1 : (text vs e).length ≤ 2305843009213693000) (hl2 : (text vs f).length ≤ 2305843009213693000) : Plains vs (.bin 14 e f) := by
  intro w s v ht hn
  obtain ⟨a, cap, rfl⟩ := names_len hn
  have HRK := Lib.hid (fun W => (show Calls Tryz.prog 32 #[.agg #[.int .i64 14, .int .i64 0, s]] W fun f w' => f = .returned (.int .i64 2) ∧ Below W.heap.size W w' from refRank_any nv na (.bin 14 e f) hw s W))
  obtain ⟨-, -, g, off, kcap, o1, x1, s1, o2, x2, s2, rfl, k0, k1, k2, t1, l0, l1, l2, t2⟩ := ht
  obtain ⟨rfl, rfl⟩ := t1.root
  obtain ⟨rfl, rfl⟩ := t2.root
  simp only [opOf, nOf]
  have htx : text vs (.bin 14 e f) = shw vs e 2 ++ [32] ++ [38] ++ [32] ++ shw vs f 3 := by rw [← shw_eq, ← shw_eq]; unfold text; rw [pieces, if_neg (by decide)]; show (wrap (rank e) 2 _ ++ [[32], sign 14, [32]] ++ wrap (rank f) 3 _).flatten = _; simp [show sign 14 = [38] from rfl]
  have HP1 := Lib.hid (fun (W : World) (h : (W.cell? ⟨w.heap.size, 0, none⟩ = some (Value.int .i64 14) ∧ W.cell? ⟨w.heap.size + 1, 14, none⟩ = some (Value.string (ByteArray.mk #[38])) ∧ W.cell? ⟨w.heap.size, 2, none⟩ = some (Value.slice (some ⟨g, off, none⟩) 2 kcap) ∧ W.cell? ⟨g, off, none⟩ = some (Value.int .i64 (opOf e)) ∧ W.cell? ⟨g, off + 1, none⟩ = some (Value.int .i64 (nOf e)) ∧ W.cell? ⟨g, off + 2, none⟩ = some s1 ∧ W.cell? ⟨g, off + 3, none⟩ = some (Value.int .i64 (opOf f)) ∧ W.cell? ⟨g, off + 4, none⟩ = some (Value.int .i64 (nOf f)) ∧ W.cell? ⟨g, off + 5, none⟩ = some s2 ∧ Below w.heap.size w W)) => (show Calls Tryz.prog 34 #[.agg #[.int .i64 (opOf e), .int .i64 (nOf e), s1], .int .i64 2, .slice a vs.length cap] W fun r w' => r = .returned (.string (str (shw vs e 2))) ∧ (w'.cell? ⟨w.heap.size, 0, none⟩ = some (Value.int .i64 14) ∧ w'.cell? ⟨w.heap.size + 1, 14, none⟩ = some (Value.string (ByteArray.mk #[38])) ∧ w'.cell? ⟨w.heap.size, 2, none⟩ = some (Value.slice (some ⟨g, off, none⟩) 2 kcap) ∧ w'.cell? ⟨g, off, none⟩ = some (Value.int .i64 (opOf e)) ∧ w'.cell? ⟨g, off + 1, none⟩ = some (Value.int .i64 (nOf e)) ∧ w'.cell? ⟨g, off + 2, none⟩ = some s1 ∧ w'.cell? ⟨g, off + 3, none⟩ = some (Value.int .i64 (opOf f)) ∧ w'.cell? ⟨g, off + 4, none⟩ = some (Value.int .i64 (nOf f)) ∧ w'.cell? ⟨g, off + 5, none⟩ = some s2 ∧ Below w.heap.size w w') from (refShown_of vs nv na e hw.2.1 hp 2 (by decide) (by omega) W s1 (.slice a vs.length cap) (t1.below h.2.2.2.2.2.2.2.2.2 e) (Sl.below hn h.2.2.2.2.2.2.2.2.2)).mono (fun _ (w' : World) ⟨h1, h2⟩ => (⟨h1, cell_kept h2 h.1, cell_kept h2 h.2.1, S2.next h.2.2 h2⟩ : _ ∧ (w'.cell? ⟨w.heap.size, 0, none⟩ = some (Value.int .i64 14) ∧ w'.cell? ⟨w.heap.size + 1, 14, none⟩ = some (Value.string (ByteArray.mk #[38])) ∧ w'.cell? ⟨w.heap.size, 2, none⟩ = some (Value.slice (some ⟨g, off, none⟩) 2 kcap) ∧ w'.cell? ⟨g, off, none⟩ = some (Value.int .i64 (opOf e)) ∧ w'.cell? ⟨g, off + 1, none⟩ = some (Value.int .i64 (nOf e)) ∧ w'.cell? ⟨g, off + 2, none⟩ = some s1 ∧ w'.cell? ⟨g, off + 3, none⟩ = some (Value.int .i64 (opOf f)) ∧ w'.cell? ⟨g, off + 4, none⟩ = some (Value.int .i64 (nOf f)) ∧ w'.cell? ⟨g, off + 5, none⟩ = some s2 ∧ Below w.heap.size w w')))))
  have HP2 := Lib.hid (fun (W : World) (h : (W.cell? ⟨w.heap.size, 0, none⟩ = some (Value.int .i64 14) ∧ W.cell? ⟨w.heap.size + 1, 14, none⟩ = some (Value.string (ByteArray.mk #[38])) ∧ W.cell? ⟨w.heap.size, 2, none⟩ = some (Value.slice (some ⟨g, off, none⟩) 2 kcap) ∧ W.cell? ⟨g, off, none⟩ = some (Value.int .i64 (opOf e)) ∧ W.cell? ⟨g, off + 1, none⟩ = some (Value.int .i64 (nOf e)) ∧ W.cell? ⟨g, off + 2, none⟩ = some s1 ∧ W.cell? ⟨g, off + 3, none⟩ = some (Value.int .i64 (opOf f)) ∧ W.cell? ⟨g, off + 4, none⟩ = some (Value.int .i64 (nOf f)) ∧ W.cell? ⟨g, off + 5, none⟩ = some s2 ∧ Below w.heap.size w W)) => (show Calls Tryz.prog 34 #[.agg #[.int .i64 (opOf f), .int .i64 (nOf f), s2], .int .i64 3, .slice a vs.length cap] W fun r w' => r = .returned (.string (str (shw vs f 3))) ∧ (w'.cell? ⟨w.heap.size, 0, none⟩ = some (Value.int .i64 14) ∧ w'.cell? ⟨w.heap.size + 1, 14, none⟩ = some (Value.string (ByteArray.mk #[38])) ∧ w'.cell? ⟨w.heap.size, 2, none⟩ = some (Value.slice (some ⟨g, off, none⟩) 2 kcap) ∧ w'.cell? ⟨g, off, none⟩ = some (Value.int .i64 (opOf e)) ∧ w'.cell? ⟨g, off + 1, none⟩ = some (Value.int .i64 (nOf e)) ∧ w'.cell? ⟨g, off + 2, none⟩ = some s1 ∧ w'.cell? ⟨g, off + 3, none⟩ = some (Value.int .i64 (opOf f)) ∧ w'.cell? ⟨g, off + 4, none⟩ = some (Value.int .i64 (nOf f)) ∧ w'.cell? ⟨g, off + 5, none⟩ = some s2 ∧ Below w.heap.size w w') from (refShown_of vs nv na f hw.2.2 hq 3 (by decide) (by omega) W s2 (.slice a vs.length cap) (t2.below h.2.2.2.2.2.2.2.2.2 f) (Sl.below hn h.2.2.2.2.2.2.2.2.2)).mono (fun _ (w' : World) ⟨h1, h2⟩ => (⟨h1, cell_kept h2 h.1, cell_kept h2 h.2.1, S2.next h.2.2 h2⟩ : _ ∧ (w'.cell? ⟨w.heap.size, 0, none⟩ = some (Value.int .i64 14) ∧ w'.cell? ⟨w.heap.size + 1, 14, none⟩ = some (Value.string (ByteArray.mk #[38])) ∧ w'.cell? ⟨w.heap.size, 2, none⟩ = some (Value.slice (some ⟨g, off, none⟩) 2 kcap) ∧ w'.cell? ⟨g, off, none⟩ = some (Value.int .i64 (opOf e)) ∧ w'.cell? ⟨g, off + 1, none⟩ = some (Value.int .i64 (nOf e)) ∧ w'.cell? ⟨g, off + 2, none⟩ = some s1 ∧ w'.cell? ⟨g, off + 3, none⟩ = some (Value.int .i64 (opOf f)) ∧ w'.cell? ⟨g, off + 4, none⟩ = some (Value.int .i64 (nOf f)) ∧ w'.cell? ⟨g, off + 5, none⟩ = some s2 ∧ Below w.heap.size w w')))))
  have hsz1 : (shw vs e 2).length ≤ 2305843009213693002 := shw_len vs e 2 _ hl1
  have hsz2 : (shw vs f 3).length ≤ 2305843009213693002 := shw_len vs f 3 _ hl2
  obtain ⟨O1, hO1⟩ : ∃ O, opOf e = O := ⟨_, rfl⟩
  obtain ⟨X1, hX1⟩ : ∃ X, nOf e = X := ⟨_, rfl⟩
  obtain ⟨T1, hT1⟩ : ∃ T, shw vs e 2 = T := ⟨_, rfl⟩
  obtain ⟨O2, hO2⟩ : ∃ O, opOf f = O := ⟨_, rfl⟩
  obtain ⟨X2, hX2⟩ : ∃ X, nOf f = X := ⟨_, rfl⟩
  obtain ⟨T2, hT2⟩ : ∃ T, shw vs f 3 = T := ⟨_, rfl⟩
  rw [hO1, hX1, hO2, hX2] at HP1 HP2
  rw [hT1] at HP1 htx hsz1
  rw [hT2] at HP2 htx hsz2
  rw [hO1] at k0
  rw [hX1] at k1
  rw [hO2] at l0
  rw [hX2] at l1
  obtain ⟨U1, hU1⟩ : ∃ U, T1 ++ ([32] : Bs) = U := ⟨_, rfl⟩
  obtain ⟨U2, hU2⟩ : ∃ U, U1 ++ [38] = U := ⟨_, rfl⟩
  obtain ⟨U3, hU3⟩ : ∃ U, U2 ++ [32] = U := ⟨_, rfl⟩
  obtain ⟨U4, hU4⟩ : ∃ U, U3 ++ T2 = U := ⟨_, rfl⟩
  rw [hU1, hU2, hU3, hU4] at htx
  have z1 : U1.length = T1.length + 1 := by rw [← hU1]; simp
  have z2 : U2.length = U1.length + 1 := by rw [← hU2]; simp
  have z3 : U3.length = U2.length + 1 := by rw [← hU3]; simp
  have e1 : ∀ W, (Op.stringOp .add (str T1) (ByteArray.mk #[32])).run Tryz.prog W = .ok (.string (str U1)) W := fun W => by rw [run_string_add_sum W _ _ (by rw [str_size]; show _ + 1 ≤ _; omega), ← hU1, ← str_append]; rfl
  have e2 : ∀ W, (Op.stringOp .add (str U1) (ByteArray.mk #[38])).run Tryz.prog W = .ok (.string (str U2)) W := fun W => by rw [run_string_add_sum W _ _ (by rw [str_size]; show _ + 1 ≤ _; omega), ← hU2, ← str_append]; rfl
  have e3 : ∀ W, (Op.stringOp .add (str U2) (ByteArray.mk #[32])).run Tryz.prog W = .ok (.string (str U3)) W := fun W => by rw [run_string_add_sum W _ _ (by rw [str_size]; show _ + 1 ≤ _; omega), ← hU3, ← str_append]; rfl
  have e4 : ∀ W, (Op.stringOp .add (str U3) (str T2)).run Tryz.prog W = .ok (.string (str U4)) W := fun W => by rw [run_string_add_sum W _ _ (by rw [str_size, str_size]; omega), ← hU4, ← str_append]
  have hwr : IntKind.i64.wrap 3 = 3 := by decide
  have HTX := Lib.hid htx
  clear hU1 hU2 hU3 hU4 z1 z2 z3 hsz1 hsz2
  have K0 := Lib.hid k0
  have K1 := Lib.hid k1
  have K2 := Lib.hid k2
  have L0 := Lib.hid l0
  have L1 := Lib.hid l1
  have L2 := Lib.hid l2
  clear htx hn k0 k1 k2 t1 l0 l1 l2 t2 hO1 hX1 hT1 hO2 hX2 hT2 hl1 hl2 hp hq hw
  go_enter Tryz.func13, Tryz.ntmps13
  go_wp2_with fail
  refine (HRK.out _).mono ?_
  rintro _ w1 ⟨rfl, hb1⟩
  have csg := sign_cell hb1 (k := 14) (u := Value.string (ByteArray.mk #[38])) rfl
  obtain ⟨c0, c1, c2, hbw⟩ := box_cells (below_box _ _ _ _ hb1)
  have HB1 := Lib.hid hbw
  clear hb1 hbw
  go_upto_region 27 with fail
  have hS0 : (w1.drew.cell? ⟨w.heap.size, 0, none⟩ = some (Value.int .i64 14) ∧ w1.drew.cell? ⟨w.heap.size + 1, 14, none⟩ = some (Value.string (ByteArray.mk #[38])) ∧ w1.drew.cell? ⟨w.heap.size, 2, none⟩ = some (Value.slice (some ⟨g, off, none⟩) 2 kcap) ∧ w1.drew.cell? ⟨g, off, none⟩ = some (Value.int .i64 O1) ∧ w1.drew.cell? ⟨g, off + 1, none⟩ = some (Value.int .i64 X1) ∧ w1.drew.cell? ⟨g, off + 2, none⟩ = some s1 ∧ w1.drew.cell? ⟨g, off + 3, none⟩ = some (Value.int .i64 O2) ∧ w1.drew.cell? ⟨g, off + 4, none⟩ = some (Value.int .i64 X2) ∧ w1.drew.cell? ⟨g, off + 5, none⟩ = some s2 ∧ Below w.heap.size w w1.drew) := ⟨c0, csg, c2, cell_kept HB1.out.drew K0.out, cell_kept HB1.out.drew K1.out, cell_kept HB1.out.drew K2.out, cell_kept HB1.out.drew L0.out, cell_kept HB1.out.drew L1.out, cell_kept HB1.out.drew L2.out, HB1.out.drew⟩
  clear c0 c1 c2 csg
  go_region_held3 (fun W => (W.cell? ⟨w.heap.size, 0, none⟩ = some (Value.int .i64 14) ∧ W.cell? ⟨w.heap.size + 1, 14, none⟩ = some (Value.string (ByteArray.mk #[38])) ∧ W.cell? ⟨w.heap.size, 2, none⟩ = some (Value.slice (some ⟨g, off, none⟩) 2 kcap) ∧ W.cell? ⟨g, off, none⟩ = some (Value.int .i64 O1) ∧ W.cell? ⟨g, off + 1, none⟩ = some (Value.int .i64 X1) ∧ W.cell? ⟨g, off + 2, none⟩ = some s1 ∧ W.cell? ⟨g, off + 3, none⟩ = some (Value.int .i64 O2) ∧ W.cell? ⟨g, off + 4, none⟩ = some (Value.int .i64 X2) ∧ W.cell? ⟨g, off + 5, none⟩ = some s2 ∧ Below w.heap.size w W)) (first | exact hS0 | assumption) (first | (go_at_call 34; ((with_reducible refine (HP1.out _ ?_).mono ?_); (first | exact hS0 | assumption)); rintro _ w3 ⟨rfl, hS3⟩) | (go_at_call 34; ((with_reducible refine (HP2.out _ ?_).mono ?_); (first | exact hS0 | assumption)); rintro _ w4 ⟨rfl, hS4⟩))
  all_goals
    go_wp2_with fail
    go_ret
    exact ⟨ret_str (by rw [HTX.out]), by first | exact hS4.2.2.2.2.2.2.2.2.2 | exact hS3.2.2.2.2.2.2.2.2.2⟩

set_option maxRecDepth 100000 in
set_option maxHeartbeats 1600000 in
theorem plain_bin15 (vs : List Bs) (nv na : Int) (e f : Ex) (hw : WF nv na (.bin 15 e f)) (hp : Plains vs e) (hq : Plains vs f) (hl1 : (text vs e).length ≤ 2305843009213693000) (hl2 : (text vs f).length ≤ 2305843009213693000) : Plains vs (.bin 15 e f) := by
  intro w s v ht hn
  obtain ⟨a, cap, rfl⟩ := names_len hn
  have HRK := Lib.hid (fun W => (show Calls Tryz.prog 32 #[.agg #[.int .i64 15, .int .i64 0, s]] W fun f w' => f = .returned (.int .i64 1) ∧ Below W.heap.size W w' from refRank_any nv na (.bin 15 e f) hw s W))
  obtain ⟨-, -, g, off, kcap, o1, x1, s1, o2, x2, s2, rfl, k0, k1, k2, t1, l0, l1, l2, t2⟩ := ht
  obtain ⟨rfl, rfl⟩ := t1.root
  obtain ⟨rfl, rfl⟩ := t2.root
  simp only [opOf, nOf]
  have htx : text vs (.bin 15 e f) = shw vs e 1 ++ [32] ++ [124] ++ [32] ++ shw vs f 2 := by rw [← shw_eq, ← shw_eq]; unfold text; rw [pieces, if_neg (by decide)]; show (wrap (rank e) 1 _ ++ [[32], sign 15, [32]] ++ wrap (rank f) 2 _).flatten = _; simp [show sign 15 = [124] from rfl]
  have HP1 := Lib.hid (fun (W : World) (h : (W.cell? ⟨w.heap.size, 0, none⟩ = some (Value.int .i64 15) ∧ W.cell? ⟨w.heap.size + 1, 15, none⟩ = some (Value.string (ByteArray.mk #[124])) ∧ W.cell? ⟨w.heap.size, 2, none⟩ = some (Value.slice (some ⟨g, off, none⟩) 2 kcap) ∧ W.cell? ⟨g, off, none⟩ = some (Value.int .i64 (opOf e)) ∧ W.cell? ⟨g, off + 1, none⟩ = some (Value.int .i64 (nOf e)) ∧ W.cell? ⟨g, off + 2, none⟩ = some s1 ∧ W.cell? ⟨g, off + 3, none⟩ = some (Value.int .i64 (opOf f)) ∧ W.cell? ⟨g, off + 4, none⟩ = some (Value.int .i64 (nOf f)) ∧ W.cell? ⟨g, off + 5, none⟩ = some s2 ∧ Below w.heap.size w W)) => (show Calls Tryz.prog 34 #[.agg #[.int .i64 (opOf e), .int .i64 (nOf e), s1], .int .i64 1, .slice a vs.length cap] W fun r w' => r = .returned (.string (str (shw vs e 1))) ∧ (w'.cell? ⟨w.heap.size, 0, none⟩ = some (Value.int .i64 15) ∧ w'.cell? ⟨w.heap.size + 1, 15, none⟩ = some (Value.string (ByteArray.mk #[124])) ∧ w'.cell? ⟨w.heap.size, 2, none⟩ = some (Value.slice (some ⟨g, off, none⟩) 2 kcap) ∧ w'.cell? ⟨g, off, none⟩ = some (Value.int .i64 (opOf e)) ∧ w'.cell? ⟨g, off + 1, none⟩ = some (Value.int .i64 (nOf e)) ∧ w'.cell? ⟨g, off + 2, none⟩ = some s1 ∧ w'.cell? ⟨g, off + 3, none⟩ = some (Value.int .i64 (opOf f)) ∧ w'.cell? ⟨g, off + 4, none⟩ = some (Value.int .i64 (nOf f)) ∧ w'.cell? ⟨g, off + 5, none⟩ = some s2 ∧ Below w.heap.size w w') from (refShown_of vs nv na e hw.2.1 hp 1 (by decide) (by omega) W s1 (.slice a vs.length cap) (t1.below h.2.2.2.2.2.2.2.2.2 e) (Sl.below hn h.2.2.2.2.2.2.2.2.2)).mono (fun _ (w' : World) ⟨h1, h2⟩ => (⟨h1, cell_kept h2 h.1, cell_kept h2 h.2.1, S2.next h.2.2 h2⟩ : _ ∧ (w'.cell? ⟨w.heap.size, 0, none⟩ = some (Value.int .i64 15) ∧ w'.cell? ⟨w.heap.size + 1, 15, none⟩ = some (Value.string (ByteArray.mk #[124])) ∧ w'.cell? ⟨w.heap.size, 2, none⟩ = some (Value.slice (some ⟨g, off, none⟩) 2 kcap) ∧ w'.cell? ⟨g, off, none⟩ = some (Value.int .i64 (opOf e)) ∧ w'.cell? ⟨g, off + 1, none⟩ = some (Value.int .i64 (nOf e)) ∧ w'.cell? ⟨g, off + 2, none⟩ = some s1 ∧ w'.cell? ⟨g, off + 3, none⟩ = some (Value.int .i64 (opOf f)) ∧ w'.cell? ⟨g, off + 4, none⟩ = some (Value.int .i64 (nOf f)) ∧ w'.cell? ⟨g, off + 5, none⟩ = some s2 ∧ Below w.heap.size w w')))))
  have HP2 := Lib.hid (fun (W : World) (h : (W.cell? ⟨w.heap.size, 0, none⟩ = some (Value.int .i64 15) ∧ W.cell? ⟨w.heap.size + 1, 15, none⟩ = some (Value.string (ByteArray.mk #[124])) ∧ W.cell? ⟨w.heap.size, 2, none⟩ = some (Value.slice (some ⟨g, off, none⟩) 2 kcap) ∧ W.cell? ⟨g, off, none⟩ = some (Value.int .i64 (opOf e)) ∧ W.cell? ⟨g, off + 1, none⟩ = some (Value.int .i64 (nOf e)) ∧ W.cell? ⟨g, off + 2, none⟩ = some s1 ∧ W.cell? ⟨g, off + 3, none⟩ = some (Value.int .i64 (opOf f)) ∧ W.cell? ⟨g, off + 4, none⟩ = some (Value.int .i64 (nOf f)) ∧ W.cell? ⟨g, off + 5, none⟩ = some s2 ∧ Below w.heap.size w W)) => (show Calls Tryz.prog 34 #[.agg #[.int .i64 (opOf f), .int .i64 (nOf f), s2], .int .i64 2, .slice a vs.length cap] W fun r w' => r = .returned (.string (str (shw vs f 2))) ∧ (w'.cell? ⟨w.heap.size, 0, none⟩ = some (Value.int .i64 15) ∧ w'.cell? ⟨w.heap.size + 1, 15, none⟩ = some (Value.string (ByteArray.mk #[124])) ∧ w'.cell? ⟨w.heap.size, 2, none⟩ = some (Value.slice (some ⟨g, off, none⟩) 2 kcap) ∧ w'.cell? ⟨g, off, none⟩ = some (Value.int .i64 (opOf e)) ∧ w'.cell? ⟨g, off + 1, none⟩ = some (Value.int .i64 (nOf e)) ∧ w'.cell? ⟨g, off + 2, none⟩ = some s1 ∧ w'.cell? ⟨g, off + 3, none⟩ = some (Value.int .i64 (opOf f)) ∧ w'.cell? ⟨g, off + 4, none⟩ = some (Value.int .i64 (nOf f)) ∧ w'.cell? ⟨g, off + 5, none⟩ = some s2 ∧ Below w.heap.size w w') from (refShown_of vs nv na f hw.2.2 hq 2 (by decide) (by omega) W s2 (.slice a vs.length cap) (t2.below h.2.2.2.2.2.2.2.2.2 f) (Sl.below hn h.2.2.2.2.2.2.2.2.2)).mono (fun _ (w' : World) ⟨h1, h2⟩ => (⟨h1, cell_kept h2 h.1, cell_kept h2 h.2.1, S2.next h.2.2 h2⟩ : _ ∧ (w'.cell? ⟨w.heap.size, 0, none⟩ = some (Value.int .i64 15) ∧ w'.cell? ⟨w.heap.size + 1, 15, none⟩ = some (Value.string (ByteArray.mk #[124])) ∧ w'.cell? ⟨w.heap.size, 2, none⟩ = some (Value.slice (some ⟨g, off, none⟩) 2 kcap) ∧ w'.cell? ⟨g, off, none⟩ = some (Value.int .i64 (opOf e)) ∧ w'.cell? ⟨g, off + 1, none⟩ = some (Value.int .i64 (nOf e)) ∧ w'.cell? ⟨g, off + 2, none⟩ = some s1 ∧ w'.cell? ⟨g, off + 3, none⟩ = some (Value.int .i64 (opOf f)) ∧ w'.cell? ⟨g, off + 4, none⟩ = some (Value.int .i64 (nOf f)) ∧ w'.cell? ⟨g, off + 5, none⟩ = some s2 ∧ Below w.heap.size w w')))))
  have hsz1 : (shw vs e 1).length ≤ 2305843009213693002 := shw_len vs e 1 _ hl1
  have hsz2 : (shw vs f 2).length ≤ 2305843009213693002 := shw_len vs f 2 _ hl2
  obtain ⟨O1, hO1⟩ : ∃ O, opOf e = O := ⟨_, rfl⟩
  obtain ⟨X1, hX1⟩ : ∃ X, nOf e = X := ⟨_, rfl⟩
  obtain ⟨T1, hT1⟩ : ∃ T, shw vs e 1 = T := ⟨_, rfl⟩
  obtain ⟨O2, hO2⟩ : ∃ O, opOf f = O := ⟨_, rfl⟩
  obtain ⟨X2, hX2⟩ : ∃ X, nOf f = X := ⟨_, rfl⟩
  obtain ⟨T2, hT2⟩ : ∃ T, shw vs f 2 = T := ⟨_, rfl⟩
  rw [hO1, hX1, hO2, hX2] at HP1 HP2
  rw [hT1] at HP1 htx hsz1
  rw [hT2] at HP2 htx hsz2
  rw [hO1] at k0
  rw [hX1] at k1
  rw [hO2] at l0
  rw [hX2] at l1
  obtain ⟨U1, hU1⟩ : ∃ U, T1 ++ ([32] : Bs) = U := ⟨_, rfl⟩
  obtain ⟨U2, hU2⟩ : ∃ U, U1 ++ [124] = U := ⟨_, rfl⟩
  obtain ⟨U3, hU3⟩ : ∃ U, U2 ++ [32] = U := ⟨_, rfl⟩
  obtain ⟨U4, hU4⟩ : ∃ U, U3 ++ T2 = U := ⟨_, rfl⟩
  rw [hU1, hU2, hU3, hU4] at htx
  have z1 : U1.length = T1.length + 1 := by rw [← hU1]; simp
  have z2 : U2.length = U1.length + 1 := by rw [← hU2]; simp
  have z3 : U3.length = U2.length + 1 := by rw [← hU3]; simp
  have e1 : ∀ W, (Op.stringOp .add (str T1) (ByteArray.mk #[32])).run Tryz.prog W = .ok (.string (str U1)) W := fun W => by rw [run_string_add_sum W _ _ (by rw [str_size]; show _ + 1 ≤ _; omega), ← hU1, ← str_append]; rfl
  have e2 : ∀ W, (Op.stringOp .add (str U1) (ByteArray.mk #[124])).run Tryz.prog W = .ok (.string (str U2)) W := fun W => by rw [run_string_add_sum W _ _ (by rw [str_size]; show _ + 1 ≤ _; omega), ← hU2, ← str_append]; rfl
  have e3 : ∀ W, (Op.stringOp .add (str U2) (ByteArray.mk #[32])).run Tryz.prog W = .ok (.string (str U3)) W := fun W => by rw [run_string_add_sum W _ _ (by rw [str_size]; show _ + 1 ≤ _; omega), ← hU3, ← str_append]; rfl
  have e4 : ∀ W, (Op.stringOp .add (str U3) (str T2)).run Tryz.prog W = .ok (.string (str U4)) W := fun W => by rw [run_string_add_sum W _ _ (by rw [str_size, str_size]; omega), ← hU4, ← str_append]
  have hwr : IntKind.i64.wrap 2 = 2 := by decide
  have HTX := Lib.hid htx
  clear hU1 hU2 hU3 hU4 z1 z2 z3 hsz1 hsz2
  have K0 := Lib.hid k0
  have K1 := Lib.hid k1
  have K2 := Lib.hid k2
  have L0 := Lib.hid l0
  have L1 := Lib.hid l1
  have L2 := Lib.hid l2
  clear htx hn k0 k1 k2 t1 l0 l1 l2 t2 hO1 hX1 hT1 hO2 hX2 hT2 hl1 hl2 hp hq hw
  go_enter Tryz.func13, Tryz.ntmps13
  go_wp2_with fail
  refine (HRK.out _).mono ?_
  rintro _ w1 ⟨rfl, hb1⟩
  have csg := sign_cell hb1 (k := 15) (u := Value.string (ByteArray.mk #[124])) rfl
  obtain ⟨c0, c1, c2, hbw⟩ := box_cells (below_box _ _ _ _ hb1)
  have HB1 := Lib.hid hbw
  clear hb1 hbw
  go_upto_region 27 with fail
  have hS0 : (w1.drew.cell? ⟨w.heap.size, 0, none⟩ = some (Value.int .i64 15) ∧ w1.drew.cell? ⟨w.heap.size + 1, 15, none⟩ = some (Value.string (ByteArray.mk #[124])) ∧ w1.drew.cell? ⟨w.heap.size, 2, none⟩ = some (Value.slice (some ⟨g, off, none⟩) 2 kcap) ∧ w1.drew.cell? ⟨g, off, none⟩ = some (Value.int .i64 O1) ∧ w1.drew.cell? ⟨g, off + 1, none⟩ = some (Value.int .i64 X1) ∧ w1.drew.cell? ⟨g, off + 2, none⟩ = some s1 ∧ w1.drew.cell? ⟨g, off + 3, none⟩ = some (Value.int .i64 O2) ∧ w1.drew.cell? ⟨g, off + 4, none⟩ = some (Value.int .i64 X2) ∧ w1.drew.cell? ⟨g, off + 5, none⟩ = some s2 ∧ Below w.heap.size w w1.drew) := ⟨c0, csg, c2, cell_kept HB1.out.drew K0.out, cell_kept HB1.out.drew K1.out, cell_kept HB1.out.drew K2.out, cell_kept HB1.out.drew L0.out, cell_kept HB1.out.drew L1.out, cell_kept HB1.out.drew L2.out, HB1.out.drew⟩
  clear c0 c1 c2 csg
  go_region_held3 (fun W => (W.cell? ⟨w.heap.size, 0, none⟩ = some (Value.int .i64 15) ∧ W.cell? ⟨w.heap.size + 1, 15, none⟩ = some (Value.string (ByteArray.mk #[124])) ∧ W.cell? ⟨w.heap.size, 2, none⟩ = some (Value.slice (some ⟨g, off, none⟩) 2 kcap) ∧ W.cell? ⟨g, off, none⟩ = some (Value.int .i64 O1) ∧ W.cell? ⟨g, off + 1, none⟩ = some (Value.int .i64 X1) ∧ W.cell? ⟨g, off + 2, none⟩ = some s1 ∧ W.cell? ⟨g, off + 3, none⟩ = some (Value.int .i64 O2) ∧ W.cell? ⟨g, off + 4, none⟩ = some (Value.int .i64 X2) ∧ W.cell? ⟨g, off + 5, none⟩ = some s2 ∧ Below w.heap.size w W)) (first | exact hS0 | assumption) (first | (go_at_call 34; ((with_reducible refine (HP1.out _ ?_).mono ?_); (first | exact hS0 | assumption)); rintro _ w3 ⟨rfl, hS3⟩) | (go_at_call 34; ((with_reducible refine (HP2.out _ ?_).mono ?_); (first | exact hS0 | assumption)); rintro _ w4 ⟨rfl, hS4⟩))
  all_goals
    go_wp2_with fail
    go_ret
    exact ⟨ret_str (by rw [HTX.out]), by first | exact hS4.2.2.2.2.2.2.2.2.2 | exact hS3.2.2.2.2.2.2.2.2.2⟩
end Go.Proofs.YtbeidmkhpcnbbaaGreatDoor.I

namespace Go.Proofs.YtbeidmkhpcnbbaaGreatDoor.I
open Go Go.RowKit Go.Proofs.YtbeidmkhpcnbbaaGreatDoor.B Go.Proofs.YtbeidmkhpcnbbaaGreatDoor.K Go.Proofs.YtbeidmkhpcnbbaaGreatDoor.E
set_option linter.unusedVariables false

set_option maxRecDepth 100000 in
set_option maxHeartbeats 3200000 in
theorem plain_ite (vs : List Bs) (nv na : Int) (e f h : Ex) (hw : WF nv na (.ite e f h)) (hp : Plains vs e) (hq : Plains vs f) (hr : Plains vs h) (hl1 : (text vs e).length ≤ 2305843009213693000) (hl2 : (text vs f).length ≤ 2305843009213693000) (hl3 : (text vs h).length ≤ 2305843009213693000) : Plains vs (.ite e f h) := by
  intro w s v ht hn
  obtain ⟨a, cap, rfl⟩ := names_len hn
  have HRK := Lib.hid (fun W => (show Calls Tryz.prog 32 #[.agg #[.int .i64 16, .int .i64 0, s]] W fun f w' => f = .returned (.int .i64 7) ∧ Below W.heap.size W w' from refRank_any nv na (.ite e f h) hw s W))
  obtain ⟨-, -, g, off, kcap, o1, x1, s1, o2, x2, s2, o3, x3, s3, rfl, k0, k1, k2, t1, l0, l1, l2, t2, m0, m1, m2, t3⟩ := ht
  obtain ⟨rfl, rfl⟩ := t1.root
  obtain ⟨rfl, rfl⟩ := t2.root
  obtain ⟨rfl, rfl⟩ := t3.root
  simp only [opOf, nOf]
  have htx : text vs (.ite e f h) = wif ++ [40] ++ text vs e ++ [44, 32] ++ text vs f ++ [44, 32] ++ text vs h ++ [41] := by unfold text; rw [pieces]; simp
  have HP1 := Lib.hid (fun (W : World) (j : (W.cell? ⟨w.heap.size, 2, none⟩ = some (Value.slice (some ⟨g, off, none⟩) 3 kcap) ∧ W.cell? ⟨g, off, none⟩ = some (Value.int .i64 (opOf e)) ∧ W.cell? ⟨g, off + 1, none⟩ = some (Value.int .i64 (nOf e)) ∧ W.cell? ⟨g, off + 2, none⟩ = some s1 ∧ W.cell? ⟨g, off + 3, none⟩ = some (Value.int .i64 (opOf f)) ∧ W.cell? ⟨g, off + 4, none⟩ = some (Value.int .i64 (nOf f)) ∧ W.cell? ⟨g, off + 5, none⟩ = some s2 ∧ W.cell? ⟨g, off + 6, none⟩ = some (Value.int .i64 (opOf h)) ∧ W.cell? ⟨g, off + 7, none⟩ = some (Value.int .i64 (nOf h)) ∧ W.cell? ⟨g, off + 8, none⟩ = some s3 ∧ Below w.heap.size w W)) => (hp W s1 (.slice a vs.length cap) (t1.below j.2.2.2.2.2.2.2.2.2.2 e) (Sl.below hn j.2.2.2.2.2.2.2.2.2.2)).mono (fun _ (w' : World) ⟨h1, h2⟩ => (⟨h1, cell_kept h2 j.1, cell_kept h2 j.2.1, cell_kept h2 j.2.2.1, cell_kept h2 j.2.2.2.1, cell_kept h2 j.2.2.2.2.1, cell_kept h2 j.2.2.2.2.2.1, cell_kept h2 j.2.2.2.2.2.2.1, cell_kept h2 j.2.2.2.2.2.2.2.1, cell_kept h2 j.2.2.2.2.2.2.2.2.1, cell_kept h2 j.2.2.2.2.2.2.2.2.2.1, j.2.2.2.2.2.2.2.2.2.2.trans (h2.mono j.2.2.2.2.2.2.2.2.2.2.size)⟩ : _ ∧ (w'.cell? ⟨w.heap.size, 2, none⟩ = some (Value.slice (some ⟨g, off, none⟩) 3 kcap) ∧ w'.cell? ⟨g, off, none⟩ = some (Value.int .i64 (opOf e)) ∧ w'.cell? ⟨g, off + 1, none⟩ = some (Value.int .i64 (nOf e)) ∧ w'.cell? ⟨g, off + 2, none⟩ = some s1 ∧ w'.cell? ⟨g, off + 3, none⟩ = some (Value.int .i64 (opOf f)) ∧ w'.cell? ⟨g, off + 4, none⟩ = some (Value.int .i64 (nOf f)) ∧ w'.cell? ⟨g, off + 5, none⟩ = some s2 ∧ w'.cell? ⟨g, off + 6, none⟩ = some (Value.int .i64 (opOf h)) ∧ w'.cell? ⟨g, off + 7, none⟩ = some (Value.int .i64 (nOf h)) ∧ w'.cell? ⟨g, off + 8, none⟩ = some s3 ∧ Below w.heap.size w w'))))
  have HP2 := Lib.hid (fun (W : World) (j : (W.cell? ⟨w.heap.size, 2, none⟩ = some (Value.slice (some ⟨g, off, none⟩) 3 kcap) ∧ W.cell? ⟨g, off, none⟩ = some (Value.int .i64 (opOf e)) ∧ W.cell? ⟨g, off + 1, none⟩ = some (Value.int .i64 (nOf e)) ∧ W.cell? ⟨g, off + 2, none⟩ = some s1 ∧ W.cell? ⟨g, off + 3, none⟩ = some (Value.int .i64 (opOf f)) ∧ W.cell? ⟨g, off + 4, none⟩ = some (Value.int .i64 (nOf f)) ∧ W.cell? ⟨g, off + 5, none⟩ = some s2 ∧ W.cell? ⟨g, off + 6, none⟩ = some (Value.int .i64 (opOf h)) ∧ W.cell? ⟨g, off + 7, none⟩ = some (Value.int .i64 (nOf h)) ∧ W.cell? ⟨g, off + 8, none⟩ = some s3 ∧ Below w.heap.size w W)) => (hq W s2 (.slice a vs.length cap) (t2.below j.2.2.2.2.2.2.2.2.2.2 f) (Sl.below hn j.2.2.2.2.2.2.2.2.2.2)).mono (fun _ (w' : World) ⟨h1, h2⟩ => (⟨h1, cell_kept h2 j.1, cell_kept h2 j.2.1, cell_kept h2 j.2.2.1, cell_kept h2 j.2.2.2.1, cell_kept h2 j.2.2.2.2.1, cell_kept h2 j.2.2.2.2.2.1, cell_kept h2 j.2.2.2.2.2.2.1, cell_kept h2 j.2.2.2.2.2.2.2.1, cell_kept h2 j.2.2.2.2.2.2.2.2.1, cell_kept h2 j.2.2.2.2.2.2.2.2.2.1, j.2.2.2.2.2.2.2.2.2.2.trans (h2.mono j.2.2.2.2.2.2.2.2.2.2.size)⟩ : _ ∧ (w'.cell? ⟨w.heap.size, 2, none⟩ = some (Value.slice (some ⟨g, off, none⟩) 3 kcap) ∧ w'.cell? ⟨g, off, none⟩ = some (Value.int .i64 (opOf e)) ∧ w'.cell? ⟨g, off + 1, none⟩ = some (Value.int .i64 (nOf e)) ∧ w'.cell? ⟨g, off + 2, none⟩ = some s1 ∧ w'.cell? ⟨g, off + 3, none⟩ = some (Value.int .i64 (opOf f)) ∧ w'.cell? ⟨g, off + 4, none⟩ = some (Value.int .i64 (nOf f)) ∧ w'.cell? ⟨g, off + 5, none⟩ = some s2 ∧ w'.cell? ⟨g, off + 6, none⟩ = some (Value.int .i64 (opOf h)) ∧ w'.cell? ⟨g, off + 7, none⟩ = some (Value.int .i64 (nOf h)) ∧ w'.cell? ⟨g, off + 8, none⟩ = some s3 ∧ Below w.heap.size w w'))))
  have HP3 := Lib.hid (fun (W : World) (j : (W.cell? ⟨w.heap.size, 2, none⟩ = some (Value.slice (some ⟨g, off, none⟩) 3 kcap) ∧ W.cell? ⟨g, off, none⟩ = some (Value.int .i64 (opOf e)) ∧ W.cell? ⟨g, off + 1, none⟩ = some (Value.int .i64 (nOf e)) ∧ W.cell? ⟨g, off + 2, none⟩ = some s1 ∧ W.cell? ⟨g, off + 3, none⟩ = some (Value.int .i64 (opOf f)) ∧ W.cell? ⟨g, off + 4, none⟩ = some (Value.int .i64 (nOf f)) ∧ W.cell? ⟨g, off + 5, none⟩ = some s2 ∧ W.cell? ⟨g, off + 6, none⟩ = some (Value.int .i64 (opOf h)) ∧ W.cell? ⟨g, off + 7, none⟩ = some (Value.int .i64 (nOf h)) ∧ W.cell? ⟨g, off + 8, none⟩ = some s3 ∧ Below w.heap.size w W)) => (hr W s3 (.slice a vs.length cap) (t3.below j.2.2.2.2.2.2.2.2.2.2 h) (Sl.below hn j.2.2.2.2.2.2.2.2.2.2)).mono (fun _ (w' : World) ⟨h1, h2⟩ => (⟨h1, cell_kept h2 j.1, cell_kept h2 j.2.1, cell_kept h2 j.2.2.1, cell_kept h2 j.2.2.2.1, cell_kept h2 j.2.2.2.2.1, cell_kept h2 j.2.2.2.2.2.1, cell_kept h2 j.2.2.2.2.2.2.1, cell_kept h2 j.2.2.2.2.2.2.2.1, cell_kept h2 j.2.2.2.2.2.2.2.2.1, cell_kept h2 j.2.2.2.2.2.2.2.2.2.1, j.2.2.2.2.2.2.2.2.2.2.trans (h2.mono j.2.2.2.2.2.2.2.2.2.2.size)⟩ : _ ∧ (w'.cell? ⟨w.heap.size, 2, none⟩ = some (Value.slice (some ⟨g, off, none⟩) 3 kcap) ∧ w'.cell? ⟨g, off, none⟩ = some (Value.int .i64 (opOf e)) ∧ w'.cell? ⟨g, off + 1, none⟩ = some (Value.int .i64 (nOf e)) ∧ w'.cell? ⟨g, off + 2, none⟩ = some s1 ∧ w'.cell? ⟨g, off + 3, none⟩ = some (Value.int .i64 (opOf f)) ∧ w'.cell? ⟨g, off + 4, none⟩ = some (Value.int .i64 (nOf f)) ∧ w'.cell? ⟨g, off + 5, none⟩ = some s2 ∧ w'.cell? ⟨g, off + 6, none⟩ = some (Value.int .i64 (opOf h)) ∧ w'.cell? ⟨g, off + 7, none⟩ = some (Value.int .i64 (nOf h)) ∧ w'.cell? ⟨g, off + 8, none⟩ = some s3 ∧ Below w.heap.size w w'))))
  obtain ⟨O1, hO1⟩ : ∃ O, opOf e = O := ⟨_, rfl⟩
  obtain ⟨X1, hX1⟩ : ∃ X, nOf e = X := ⟨_, rfl⟩
  obtain ⟨T1, hT1⟩ : ∃ T, text vs e = T := ⟨_, rfl⟩
  obtain ⟨O2, hO2⟩ : ∃ O, opOf f = O := ⟨_, rfl⟩
  obtain ⟨X2, hX2⟩ : ∃ X, nOf f = X := ⟨_, rfl⟩
  obtain ⟨T2, hT2⟩ : ∃ T, text vs f = T := ⟨_, rfl⟩
  obtain ⟨O3, hO3⟩ : ∃ O, opOf h = O := ⟨_, rfl⟩
  obtain ⟨X3, hX3⟩ : ∃ X, nOf h = X := ⟨_, rfl⟩
  obtain ⟨T3, hT3⟩ : ∃ T, text vs h = T := ⟨_, rfl⟩
  rw [hO1, hX1, hO2, hX2, hO3, hX3] at HP1 HP2 HP3
  rw [hT1] at HP1 htx hl1
  rw [hT2] at HP2 htx hl2
  rw [hT3] at HP3 htx hl3
  rw [hO1] at k0
  rw [hX1] at k1
  rw [hO2] at l0
  rw [hX2] at l1
  rw [hO3] at m0
  rw [hX3] at m1
  obtain ⟨U1, hU1⟩ : ∃ U, (wif ++ [40] : Bs) ++ T1 = U := ⟨_, rfl⟩
  obtain ⟨U2, hU2⟩ : ∃ U, U1 ++ [44, 32] = U := ⟨_, rfl⟩
  obtain ⟨U3, hU3⟩ : ∃ U, U2 ++ T2 = U := ⟨_, rfl⟩
  obtain ⟨U4, hU4⟩ : ∃ U, U3 ++ [44, 32] = U := ⟨_, rfl⟩
  obtain ⟨U5, hU5⟩ : ∃ U, U4 ++ T3 = U := ⟨_, rfl⟩
  obtain ⟨U6, hU6⟩ : ∃ U, U5 ++ [41] = U := ⟨_, rfl⟩
  rw [hU1, hU2, hU3, hU4, hU5, hU6] at htx
  have z1 : U1.length = 3 + T1.length := by rw [← hU1]; simp [wif]; omega
  have z2 : U2.length = U1.length + 2 := by rw [← hU2]; simp
  have z3 : U3.length = U2.length + T2.length := by rw [← hU3]; simp
  have z4 : U4.length = U3.length + 2 := by rw [← hU4]; simp
  have z5 : U5.length = U4.length + T3.length := by rw [← hU5]; simp
  have e1 : ∀ W, (Op.stringOp .add (ByteArray.mk #[105, 102, 40]) (str T1)).run Tryz.prog W = .ok (.string (str U1)) W := fun W => by rw [run_string_add_sum W _ _ (by rw [str_size]; show 3 + _ ≤ _; omega), ← hU1, ← str_append]; rfl
  have e2 : ∀ W, (Op.stringOp .add (str U1) (ByteArray.mk #[44, 32])).run Tryz.prog W = .ok (.string (str U2)) W := fun W => by rw [run_string_add_sum W _ _ (by rw [str_size]; show _ + 2 ≤ _; omega), ← hU2, ← str_append]; rfl
  have e3 : ∀ W, (Op.stringOp .add (str U2) (str T2)).run Tryz.prog W = .ok (.string (str U3)) W := fun W => by rw [run_string_add_sum W _ _ (by rw [str_size, str_size]; omega), ← hU3, ← str_append]
  have e4 : ∀ W, (Op.stringOp .add (str U3) (ByteArray.mk #[44, 32])).run Tryz.prog W = .ok (.string (str U4)) W := fun W => by rw [run_string_add_sum W _ _ (by rw [str_size]; show _ + 2 ≤ _; omega), ← hU4, ← str_append]; rfl
  have e5 : ∀ W, (Op.stringOp .add (str U4) (str T3)).run Tryz.prog W = .ok (.string (str U5)) W := fun W => by rw [run_string_add_sum W _ _ (by rw [str_size, str_size]; omega), ← hU5, ← str_append]
  have e6 : ∀ W, (Op.stringOp .add (str U5) (ByteArray.mk #[41])).run Tryz.prog W = .ok (.string (str U6)) W := fun W => by rw [run_string_add_sum W _ _ (by rw [str_size]; show _ + 1 ≤ _; omega), ← hU6, ← str_append]; rfl
  have HTX := Lib.hid htx
  clear hU1 hU2 hU3 hU4 hU5 hU6 z1 z2 z3 z4 z5
  have K0 := Lib.hid k0
  have K1 := Lib.hid k1
  have K2 := Lib.hid k2
  have L0 := Lib.hid l0
  have L1 := Lib.hid l1
  have L2 := Lib.hid l2
  have M0 := Lib.hid m0
  have M1 := Lib.hid m1
  have M2 := Lib.hid m2
  clear htx hn k0 k1 k2 t1 l0 l1 l2 t2 m0 m1 m2 t3 hO1 hX1 hT1 hO2 hX2 hT2 hO3 hX3 hT3 hl1 hl2 hl3 hp hq hr hw
  go_enter Tryz.func13, Tryz.ntmps13
  go_wp2_with fail
  refine (HRK.out _).mono ?_
  rintro _ w1 ⟨rfl, hb1⟩
  obtain ⟨c0, c1, c2, hbw⟩ := box_cells (below_box _ _ _ _ hb1)
  have HB1 := Lib.hid hbw
  clear hb1 hbw
  go_upto_region 23 with fail
  have hS0 : (w1.drew.cell? ⟨w.heap.size, 2, none⟩ = some (Value.slice (some ⟨g, off, none⟩) 3 kcap) ∧ w1.drew.cell? ⟨g, off, none⟩ = some (Value.int .i64 O1) ∧ w1.drew.cell? ⟨g, off + 1, none⟩ = some (Value.int .i64 X1) ∧ w1.drew.cell? ⟨g, off + 2, none⟩ = some s1 ∧ w1.drew.cell? ⟨g, off + 3, none⟩ = some (Value.int .i64 O2) ∧ w1.drew.cell? ⟨g, off + 4, none⟩ = some (Value.int .i64 X2) ∧ w1.drew.cell? ⟨g, off + 5, none⟩ = some s2 ∧ w1.drew.cell? ⟨g, off + 6, none⟩ = some (Value.int .i64 O3) ∧ w1.drew.cell? ⟨g, off + 7, none⟩ = some (Value.int .i64 X3) ∧ w1.drew.cell? ⟨g, off + 8, none⟩ = some s3 ∧ Below w.heap.size w w1.drew) := ⟨c2, cell_kept HB1.out.drew K0.out, cell_kept HB1.out.drew K1.out, cell_kept HB1.out.drew K2.out, cell_kept HB1.out.drew L0.out, cell_kept HB1.out.drew L1.out, cell_kept HB1.out.drew L2.out, cell_kept HB1.out.drew M0.out, cell_kept HB1.out.drew M1.out, cell_kept HB1.out.drew M2.out, HB1.out.drew⟩
  clear c0 c1 c2
  go_region_held3 (fun W => (W.cell? ⟨w.heap.size, 2, none⟩ = some (Value.slice (some ⟨g, off, none⟩) 3 kcap) ∧ W.cell? ⟨g, off, none⟩ = some (Value.int .i64 O1) ∧ W.cell? ⟨g, off + 1, none⟩ = some (Value.int .i64 X1) ∧ W.cell? ⟨g, off + 2, none⟩ = some s1 ∧ W.cell? ⟨g, off + 3, none⟩ = some (Value.int .i64 O2) ∧ W.cell? ⟨g, off + 4, none⟩ = some (Value.int .i64 X2) ∧ W.cell? ⟨g, off + 5, none⟩ = some s2 ∧ W.cell? ⟨g, off + 6, none⟩ = some (Value.int .i64 O3) ∧ W.cell? ⟨g, off + 7, none⟩ = some (Value.int .i64 X3) ∧ W.cell? ⟨g, off + 8, none⟩ = some s3 ∧ Below w.heap.size w W)) (first | exact hS0 | assumption) (first | (go_at_call 13; ((with_reducible refine (HP1.out _ ?_).mono ?_); (first | exact hS0 | assumption)); rintro _ w3 ⟨rfl, hS3⟩) | (go_at_call 13; ((with_reducible refine (HP2.out _ ?_).mono ?_); (first | exact hS0 | assumption)); rintro _ w4 ⟨rfl, hS4⟩) | (go_at_call 13; ((with_reducible refine (HP3.out _ ?_).mono ?_); (first | exact hS0 | assumption)); rintro _ w5 ⟨rfl, hS5⟩))
  all_goals
    go_wp2_with fail
    go_ret
    exact ⟨ret_str (by rw [HTX.out]), by first | exact hS5.2.2.2.2.2.2.2.2.2.2 | exact hS4.2.2.2.2.2.2.2.2.2.2 | exact hS3.2.2.2.2.2.2.2.2.2.2⟩

/-- Every expression's text. -/
theorem plains (vs : List Bs) (V : Nat) (na : Int) (hna : na ≤ 9223372036854775807) (hvs : vs.length ≤ 9223372036854775807) (hV : ∀ s ∈ vs, s.length ≤ V) (hVl : V ≤ 140737488355328) (e : Ex) (hw : WF vs.length na e) (hc : (codeOf e).length ≤ 31) : Plains vs e := by
  have bound : ∀ (x : Ex), WF vs.length na x → (codeOf x).length ≤ 31 → (text vs x).length ≤ 2305843009213693000 := by
    intro x hx hl
    have h := text_le vs V vs.length na hna hV x hx
    have h2 : (V + 40) * (codeOf x).length ≤ (140737488355328 + 40) * 31 := Nat.mul_le_mul (by omega) hl
    omega
  induction e with
  | con n => exact plain_con vs n hw
  | var k => exact plain_var vs k (by have h : (k : Int) < vs.length := hw; omega) hvs
  | arg k => exact plain_arg vs k na hw hna
  | un o a ih =>
    have hl : (codeOf a).length ≤ 31 := by simp only [codeOf, List.length_append] at hc; omega
    rcases hw.1 with rfl | rfl
    · exact plain_neg vs _ na a hw (ih hw.2 hl) (by have := bound a hw.2 hl; omega)
    · exact plain_not vs _ na a hw (ih hw.2 hl) (by have := bound a hw.2 hl; omega)
  | bin o a b iha ihb =>
    have hl1 : (codeOf a).length ≤ 31 := by simp only [codeOf, List.length_append] at hc; omega
    have hl2 : (codeOf b).length ≤ 31 := by simp only [codeOf, List.length_append] at hc; omega
    have pa := iha hw.2.1 hl1
    have pb := ihb hw.2.2 hl2
    have ba := bound a hw.2.1 hl1
    have bb := bound b hw.2.2 hl2
    rcases bin_ops o hw.1 with (rfl | rfl) | (rfl | rfl | rfl | rfl | rfl | rfl | rfl | rfl)
    · exact plain_min vs _ na a b hw pa pb ba bb
    · exact plain_max vs _ na a b hw pa pb ba bb
    · exact plain_bin6 vs _ na a b hw pa pb ba bb
    · exact plain_bin7 vs _ na a b hw pa pb ba bb
    · exact plain_bin8 vs _ na a b hw pa pb ba bb
    · exact plain_bin11 vs _ na a b hw pa pb ba bb
    · exact plain_bin12 vs _ na a b hw pa pb ba bb
    · exact plain_bin13 vs _ na a b hw pa pb ba bb
    · exact plain_bin14 vs _ na a b hw pa pb ba bb
    · exact plain_bin15 vs _ na a b hw pa pb ba bb
  | ite a b c iha ihb ihc =>
    have hl1 : (codeOf a).length ≤ 31 := by simp only [codeOf, List.length_append] at hc; omega
    have hl2 : (codeOf b).length ≤ 31 := by simp only [codeOf, List.length_append] at hc; omega
    have hl3 : (codeOf c).length ≤ 31 := by simp only [codeOf, List.length_append] at hc; omega
    exact plain_ite vs _ na a b c hw (iha hw.1 hl1) (ihb hw.2.1 hl2) (ihc hw.2.2 hl3) (bound a hw.1 hl1) (bound b hw.2.1 hl2) (bound c hw.2.2 hl3)
end Go.Proofs.YtbeidmkhpcnbbaaGreatDoor.I
