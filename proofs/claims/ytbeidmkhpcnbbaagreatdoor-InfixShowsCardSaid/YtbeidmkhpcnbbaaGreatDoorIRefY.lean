/-
  Contracts of the reference of layer 4: plain, of what has its sign ahead, and of min and max.
  Contracts of the reference of layer 4: plain, of a sign between two operands (sums, products).
-/
import Derived.Test.YtbeidmkhpcnbbaaGreatDoorIRefX
import Derived.Deep.DeepCutAuto
namespace Go.Proofs.YtbeidmkhpcnbbaaGreatDoor.I
open Go Go.RowKit Go.Proofs.YtbeidmkhpcnbbaaGreatDoor.B Go.Proofs.YtbeidmkhpcnbbaaGreatDoor.K Go.Proofs.YtbeidmkhpcnbbaaGreatDoor.E
set_option linter.unusedVariables false

theorem plainCon_op (e : Ex) (nv na : Int) (hw : WF nv na e) : (plainCon e = true ↔ opOf e = 1 ∧ 0 ≤ nOf e) := by
  cases e with
  | con n => simp [plainCon, opOf, nOf]
  | var k => simp [plainCon, opOf]
  | arg k => simp [plainCon, opOf]
  | un o a => rcases hw.1 with rfl | rfl <;> simp [plainCon, opOf]
  | ite a b c => simp [plainCon, opOf]
  | bin o a b =>
    have h := takes_is o
    have h2 := hw.1
    simp only [plainCon, opOf]
    constructor
    · intro h; cases h
    · rintro ⟨rfl, _⟩; omega

set_option maxRecDepth 100000 in
set_option maxHeartbeats 800000 in
theorem plain_neg (vs : List Bs) (nv na : Int) (e : Ex) (hw : WF nv na (.un 4 e)) (hp : Plains vs e) (hlen : (text vs e).length ≤ 9223372036854775000) : Plains vs (.un 4 e) := by
  intro w s v ht hn
  obtain ⟨a, cap, rfl⟩ := names_len hn
  have HRK := Lib.hid (fun W => refRank_any nv na (.un 4 e) hw s W)
  obtain ⟨-, -, g, off, kcap, o1, x1, s1, rfl, k0, k1, k2, t1⟩ := ht
  obtain ⟨rfl, rfl⟩ := t1.root
  have hpc := plainCon_op e nv na hw.2
  simp only [opOf, nOf] at HRK ⊢
  by_cases hc : plainCon e = true
  · have htx : text vs (.un 4 e) = [45, 40] ++ text vs e ++ [41] := by unfold text; rw [pieces, if_pos rfl, if_pos hc]; simp
    obtain ⟨hc1, hc2⟩ := hpc.1 hc
    have HPL := Lib.hid (fun W (h : Below w.heap.size w W) => hp W s1 (.slice a vs.length cap) (t1.below h e) (Sl.below hn h))
    have hsz : (str (text vs e)).size ≤ 9223372036854775000 := by rw [str_size]; exact hlen
    rw [hc1] at k0 HPL
    obtain ⟨X, hX⟩ : ∃ X, nOf e = X := ⟨_, rfl⟩
    obtain ⟨T, hT⟩ : ∃ T, text vs e = T := ⟨_, rfl⟩
    rw [hX] at k1 HPL hc2
    rw [hT] at HPL htx hsz
    have HTX := Lib.hid htx
    have K0 := Lib.hid k0
    have K1 := Lib.hid k1
    have K2 := Lib.hid k2
    clear htx hn k0 k1 k2 t1 hX hT hlen hp hpc hc hc1 hw
    go_enter Tryz.func13, Tryz.ntmps13
    go_wp2_with fail
    refine (HRK.out _).mono ?_
    rintro _ w1 ⟨rfl, hb1⟩
    obtain ⟨c0, c1, c2, hbw⟩ := box_cells (below_box _ _ _ _ hb1)
    have HB1 := Lib.hid hbw
    clear hb1 hbw
    have k0 := cell_kept HB1.out K0.out
    have k1 := cell_kept HB1.out K1.out
    have k2 := cell_kept HB1.out K2.out
    go_wp2_with fail
    refine (HPL.out _ HB1.out).mono ?_
    rintro _ w2 ⟨rfl, hb2⟩
    have HB2 := Lib.hid (HB1.out.trans (hb2.mono HB1.out.size))
    clear hb2
    go_wp2_with fail
    go_ret
    exact ⟨ret_str (by rw [HTX.out, ← str_append, ← str_append]; rfl), HB2.out⟩
  · have htx : text vs (.un 4 e) = [45] ++ shw vs e 6 := by rw [← shw_eq]; unfold text; rw [pieces, if_pos rfl, if_neg hc]; simp
    have HSH := Lib.hid (fun W (h : Below w.heap.size w W) => refShown_of vs nv na e hw.2 hp 6 (by decide) hlen W s1 (.slice a vs.length cap) (t1.below h e) (Sl.below hn h))
    have hsz : (str (shw vs e 6)).size ≤ 9223372036854775002 := by
      rw [str_size]; unfold shw; split
      · simp; omega
      · omega
    obtain ⟨O, hO⟩ : ∃ O, opOf e = O := ⟨_, rfl⟩
    obtain ⟨X, hX⟩ : ∃ X, nOf e = X := ⟨_, rfl⟩
    obtain ⟨T, hT⟩ : ∃ T, shw vs e 6 = T := ⟨_, rfl⟩
    have hno : ¬ (O = 1 ∧ 0 ≤ X) := by rw [← hO, ← hX]; intro h; exact hc (hpc.2 h)
    rw [hO] at k0 HSH
    rw [hX] at k1 HSH
    rw [hT] at HSH htx hsz
    have HTX := Lib.hid htx
    have K0 := Lib.hid k0
    have K1 := Lib.hid k1
    have K2 := Lib.hid k2
    clear htx hn k0 k1 k2 t1 hO hX hT hlen hp hpc hc hw
    by_cases h1 : O = 1
    · subst h1
      have hx : decide (0 ≤ X) = false := decide_eq_false (by omega)
      clear hno
      go_enter Tryz.func13, Tryz.ntmps13
      go_wp2_with fail
      refine (HRK.out _).mono ?_
      rintro _ w1 ⟨rfl, hb1⟩
      obtain ⟨c0, c1, c2, hbw⟩ := box_cells (below_box _ _ _ _ hb1)
      have HB1 := Lib.hid hbw
      clear hb1 hbw
      have k0 := cell_kept HB1.out K0.out
      have k1 := cell_kept HB1.out K1.out
      have k2 := cell_kept HB1.out K2.out
      go_wp2_with fail
      refine (HSH.out _ HB1.out).mono ?_
      rintro _ w2 ⟨rfl, hb2⟩
      have HB2 := Lib.hid (HB1.out.trans (hb2.mono HB1.out.size))
      clear hb2
      go_wp2_with fail
      go_ret
      exact ⟨ret_str (by rw [HTX.out, ← str_append]; rfl), HB2.out⟩
    · have h1' : (O == 1) = false := by simp [h1]
      clear hno h1
      go_enter Tryz.func13, Tryz.ntmps13
      go_wp2_with fail
      refine (HRK.out _).mono ?_
      rintro _ w1 ⟨rfl, hb1⟩
      obtain ⟨c0, c1, c2, hbw⟩ := box_cells (below_box _ _ _ _ hb1)
      have HB1 := Lib.hid hbw
      clear hb1 hbw
      have k0 := cell_kept HB1.out K0.out
      have k1 := cell_kept HB1.out K1.out
      have k2 := cell_kept HB1.out K2.out
      go_wp2_with fail
      refine (HSH.out _ HB1.out).mono ?_
      rintro _ w2 ⟨rfl, hb2⟩
      have HB2 := Lib.hid (HB1.out.trans (hb2.mono HB1.out.size))
      clear hb2
      go_wp2_with fail
      go_ret
      exact ⟨ret_str (by rw [HTX.out, ← str_append]; rfl), HB2.out⟩

/-- Two operands' cells, and the box's slice, in a world. -/
def S2 (w : World) (B g off kcap : Nat) (o1 x1 : Int) (s1 : Value) (o2 x2 : Int) (s2 : Value) (W : World) : Prop :=
  W.cell? ⟨B, 2, none⟩ = some (.slice (some ⟨g, off, none⟩) 2 kcap) ∧ W.cell? ⟨g, off, none⟩ = some (.int .i64 o1) ∧ W.cell? ⟨g, off + 1, none⟩ = some (.int .i64 x1) ∧ W.cell? ⟨g, off + 2, none⟩ = some s1 ∧
    W.cell? ⟨g, off + 3, none⟩ = some (.int .i64 o2) ∧ W.cell? ⟨g, off + 4, none⟩ = some (.int .i64 x2) ∧ W.cell? ⟨g, off + 5, none⟩ = some s2 ∧ Below w.heap.size w W

theorem S2.next {w W W' : World} {B g off kcap : Nat} {o1 x1 : Int} {s1 : Value} {o2 x2 : Int} {s2 : Value} (h : S2 w B g off kcap o1 x1 s1 o2 x2 s2 W) (hb : Below W.heap.size W W') : S2 w B g off kcap o1 x1 s1 o2 x2 s2 W' := by
  obtain ⟨a, b, c, d, e, f, k, l⟩ := h
  exact ⟨cell_kept hb a, cell_kept hb b, cell_kept hb c, cell_kept hb d, cell_kept hb e, cell_kept hb f, cell_kept hb k, l.trans (hb.mono l.size)⟩

set_option maxRecDepth 100000 in
set_option maxHeartbeats 1600000 in
theorem plain_min (vs : List Bs) (nv na : Int) (e f : Ex) (hw : WF nv na (.bin 9 e f)) (hp : Plains vs e) (hq : Plains vs f) (hl1 : (text vs e).length ≤ 2305843009213693000) (hl2 : (text vs f).length ≤ 2305843009213693000) : Plains vs (.bin 9 e f) := by
  intro w s v ht hn
  obtain ⟨a, cap, rfl⟩ := names_len hn
  have HRK := Lib.hid (fun W => refRank_any nv na (.bin 9 e f) hw s W)
  obtain ⟨-, -, g, off, kcap, o1, x1, s1, o2, x2, s2, rfl, k0, k1, k2, t1, l0, l1, l2, t2⟩ := ht
  obtain ⟨rfl, rfl⟩ := t1.root
  obtain ⟨rfl, rfl⟩ := t2.root
  simp only [opOf, nOf] at HRK ⊢
  have htx : text vs (.bin 9 e f) = wmin ++ [40] ++ text vs e ++ [44, 32] ++ text vs f ++ [41] := by unfold text; rw [pieces, if_pos (by decide)]; simp
  have HP1 := Lib.hid (fun (W : World) (h : (W.cell? ⟨w.heap.size, 2, none⟩ = some (Value.slice (some ⟨g, off, none⟩) 2 kcap) ∧ W.cell? ⟨g, off, none⟩ = some (Value.int .i64 (opOf e)) ∧ W.cell? ⟨g, off + 1, none⟩ = some (Value.int .i64 (nOf e)) ∧ W.cell? ⟨g, off + 2, none⟩ = some s1 ∧ W.cell? ⟨g, off + 3, none⟩ = some (Value.int .i64 (opOf f)) ∧ W.cell? ⟨g, off + 4, none⟩ = some (Value.int .i64 (nOf f)) ∧ W.cell? ⟨g, off + 5, none⟩ = some s2 ∧ Below w.heap.size w W)) => (hp W s1 (.slice a vs.length cap) (t1.below h.2.2.2.2.2.2.2 e) (Sl.below hn h.2.2.2.2.2.2.2)).mono (fun _ (w' : World) ⟨h1, h2⟩ => (⟨h1, S2.next h h2⟩ : _ ∧ (w'.cell? ⟨w.heap.size, 2, none⟩ = some (Value.slice (some ⟨g, off, none⟩) 2 kcap) ∧ w'.cell? ⟨g, off, none⟩ = some (Value.int .i64 (opOf e)) ∧ w'.cell? ⟨g, off + 1, none⟩ = some (Value.int .i64 (nOf e)) ∧ w'.cell? ⟨g, off + 2, none⟩ = some s1 ∧ w'.cell? ⟨g, off + 3, none⟩ = some (Value.int .i64 (opOf f)) ∧ w'.cell? ⟨g, off + 4, none⟩ = some (Value.int .i64 (nOf f)) ∧ w'.cell? ⟨g, off + 5, none⟩ = some s2 ∧ Below w.heap.size w w'))))
  have HP2 := Lib.hid (fun (W : World) (h : (W.cell? ⟨w.heap.size, 2, none⟩ = some (Value.slice (some ⟨g, off, none⟩) 2 kcap) ∧ W.cell? ⟨g, off, none⟩ = some (Value.int .i64 (opOf e)) ∧ W.cell? ⟨g, off + 1, none⟩ = some (Value.int .i64 (nOf e)) ∧ W.cell? ⟨g, off + 2, none⟩ = some s1 ∧ W.cell? ⟨g, off + 3, none⟩ = some (Value.int .i64 (opOf f)) ∧ W.cell? ⟨g, off + 4, none⟩ = some (Value.int .i64 (nOf f)) ∧ W.cell? ⟨g, off + 5, none⟩ = some s2 ∧ Below w.heap.size w W)) => (hq W s2 (.slice a vs.length cap) (t2.below h.2.2.2.2.2.2.2 f) (Sl.below hn h.2.2.2.2.2.2.2)).mono (fun _ (w' : World) ⟨h1, h2⟩ => (⟨h1, S2.next h h2⟩ : _ ∧ (w'.cell? ⟨w.heap.size, 2, none⟩ = some (Value.slice (some ⟨g, off, none⟩) 2 kcap) ∧ w'.cell? ⟨g, off, none⟩ = some (Value.int .i64 (opOf e)) ∧ w'.cell? ⟨g, off + 1, none⟩ = some (Value.int .i64 (nOf e)) ∧ w'.cell? ⟨g, off + 2, none⟩ = some s1 ∧ w'.cell? ⟨g, off + 3, none⟩ = some (Value.int .i64 (opOf f)) ∧ w'.cell? ⟨g, off + 4, none⟩ = some (Value.int .i64 (nOf f)) ∧ w'.cell? ⟨g, off + 5, none⟩ = some s2 ∧ Below w.heap.size w w'))))
  have hsz1 : (text vs e).length ≤ 2305843009213693000 := hl1
  have hsz2 : (text vs f).length ≤ 2305843009213693000 := hl2
  obtain ⟨O1, hO1⟩ : ∃ O, opOf e = O := ⟨_, rfl⟩
  obtain ⟨X1, hX1⟩ : ∃ X, nOf e = X := ⟨_, rfl⟩
  obtain ⟨T1, hT1⟩ : ∃ T, text vs e = T := ⟨_, rfl⟩
  obtain ⟨O2, hO2⟩ : ∃ O, opOf f = O := ⟨_, rfl⟩
  obtain ⟨X2, hX2⟩ : ∃ X, nOf f = X := ⟨_, rfl⟩
  obtain ⟨T2, hT2⟩ : ∃ T, text vs f = T := ⟨_, rfl⟩
  rw [hO1, hX1, hO2, hX2] at HP1 HP2
  rw [hT1] at HP1 htx hsz1
  rw [hT2] at HP2 htx hsz2
  rw [hO1] at k0
  rw [hX1] at k1
  rw [hO2] at l0
  rw [hX2] at l1
  obtain ⟨U1, hU1⟩ : ∃ U, (wmin ++ [40] : Bs) ++ T1 = U := ⟨_, rfl⟩
  obtain ⟨U2, hU2⟩ : ∃ U, U1 ++ [44, 32] = U := ⟨_, rfl⟩
  obtain ⟨U3, hU3⟩ : ∃ U, U2 ++ T2 = U := ⟨_, rfl⟩
  obtain ⟨U4, hU4⟩ : ∃ U, U3 ++ [41] = U := ⟨_, rfl⟩
  rw [hU1, hU2, hU3, hU4] at htx
  have z1 : U1.length = 4 + T1.length := by rw [← hU1]; simp [wmin]; omega
  have z2 : U2.length = U1.length + 2 := by rw [← hU2]; simp
  have z3 : U3.length = U2.length + T2.length := by rw [← hU3]; simp
  have e1 : ∀ W, (Op.stringOp .add (ByteArray.mk #[109, 105, 110, 40]) (str T1)).run Tryz.prog W = .ok (.string (str U1)) W := fun W => by rw [run_string_add_sum W _ _ (by rw [str_size]; show 4 + _ ≤ _; omega), ← hU1, ← str_append]; rfl
  have e2 : ∀ W, (Op.stringOp .add (str U1) (ByteArray.mk #[44, 32])).run Tryz.prog W = .ok (.string (str U2)) W := fun W => by rw [run_string_add_sum W _ _ (by rw [str_size]; show _ + 2 ≤ _; omega), ← hU2, ← str_append]; rfl
  have e3 : ∀ W, (Op.stringOp .add (str U2) (str T2)).run Tryz.prog W = .ok (.string (str U3)) W := fun W => by rw [run_string_add_sum W _ _ (by rw [str_size, str_size]; omega), ← hU3, ← str_append]
  have e4 : ∀ W, (Op.stringOp .add (str U3) (ByteArray.mk #[41])).run Tryz.prog W = .ok (.string (str U4)) W := fun W => by rw [run_string_add_sum W _ _ (by rw [str_size]; show _ + 1 ≤ _; omega), ← hU4, ← str_append]; rfl
  have HTX := Lib.hid htx
  clear hU1 hU2 hU3 hU4 z1 z2 z3 hsz1 hsz2
  have K0 := Lib.hid k0
  have K1 := Lib.hid k1
  have K2 := Lib.hid k2
  have L0 := Lib.hid l0
  have L1 := Lib.hid l1
  have L2 := Lib.hid l2
  clear htx hn k0 k1 k2 t1 l0 l1 l2 t2 hO1 hX1 hT1 hO2 hX2 hT2 hl1 hl2 hp hq hw
  go_enter Tryz.func13, Tryz.ntmps13
  go_wp2_with fail
  refine (HRK.out _).mono ?_
  rintro _ w1 ⟨rfl, hb1⟩
  obtain ⟨c0, c1, c2, hbw⟩ := box_cells (below_box _ _ _ _ hb1)
  have HB1 := Lib.hid hbw
  clear hb1 hbw
  go_upto_region 19 with fail
  have hS0 : (w1.drew.cell? ⟨w.heap.size, 2, none⟩ = some (Value.slice (some ⟨g, off, none⟩) 2 kcap) ∧ w1.drew.cell? ⟨g, off, none⟩ = some (Value.int .i64 O1) ∧ w1.drew.cell? ⟨g, off + 1, none⟩ = some (Value.int .i64 X1) ∧ w1.drew.cell? ⟨g, off + 2, none⟩ = some s1 ∧ w1.drew.cell? ⟨g, off + 3, none⟩ = some (Value.int .i64 O2) ∧ w1.drew.cell? ⟨g, off + 4, none⟩ = some (Value.int .i64 X2) ∧ w1.drew.cell? ⟨g, off + 5, none⟩ = some s2 ∧ Below w.heap.size w w1.drew) := ⟨c2, cell_kept HB1.out.drew K0.out, cell_kept HB1.out.drew K1.out, cell_kept HB1.out.drew K2.out, cell_kept HB1.out.drew L0.out, cell_kept HB1.out.drew L1.out, cell_kept HB1.out.drew L2.out, HB1.out.drew⟩
  clear c0 c1 c2
  go_region_held3 (fun W => (W.cell? ⟨w.heap.size, 2, none⟩ = some (Value.slice (some ⟨g, off, none⟩) 2 kcap) ∧ W.cell? ⟨g, off, none⟩ = some (Value.int .i64 O1) ∧ W.cell? ⟨g, off + 1, none⟩ = some (Value.int .i64 X1) ∧ W.cell? ⟨g, off + 2, none⟩ = some s1 ∧ W.cell? ⟨g, off + 3, none⟩ = some (Value.int .i64 O2) ∧ W.cell? ⟨g, off + 4, none⟩ = some (Value.int .i64 X2) ∧ W.cell? ⟨g, off + 5, none⟩ = some s2 ∧ Below w.heap.size w W)) (first | exact hS0 | assumption) (first | (go_at_call 13; ((with_reducible refine (HP1.out _ ?_).mono ?_); (first | exact hS0 | assumption)); rintro _ w3 ⟨rfl, hS3⟩) | (go_at_call 13; ((with_reducible refine (HP2.out _ ?_).mono ?_); (first | exact hS0 | assumption)); rintro _ w4 ⟨rfl, hS4⟩))
  all_goals
    go_wp2_with fail
    go_ret
    exact ⟨ret_str (by rw [HTX.out]), by first | exact hS4.2.2.2.2.2.2.2 | exact hS3.2.2.2.2.2.2.2⟩

set_option maxRecDepth 100000 in
set_option maxHeartbeats 1600000 in
theorem plain_max (vs : List Bs) (nv na : Int) (e f : Ex) (hw : WF nv na (.bin 10 e f)) (hp : Plains vs e) (hq : Plains vs f) (hl1 : (text vs e).length ≤ 2305843009213693000) (hl2 : (text vs f).length ≤ 2305843009213693000) : Plains vs (.bin 10 e f) := by
  intro w s v ht hn
  obtain ⟨a, cap, rfl⟩ := names_len hn
  have HRK := Lib.hid (fun W => refRank_any nv na (.bin 10 e f) hw s W)
  obtain ⟨-, -, g, off, kcap, o1, x1, s1, o2, x2, s2, rfl, k0, k1, k2, t1, l0, l1, l2, t2⟩ := ht
  obtain ⟨rfl, rfl⟩ := t1.root
  obtain ⟨rfl, rfl⟩ := t2.root
  simp only [opOf, nOf] at HRK ⊢
  have htx : text vs (.bin 10 e f) = wmax ++ [40] ++ text vs e ++ [44, 32] ++ text vs f ++ [41] := by unfold text; rw [pieces, if_pos (by decide)]; simp
  have HP1 := Lib.hid (fun (W : World) (h : (W.cell? ⟨w.heap.size, 2, none⟩ = some (Value.slice (some ⟨g, off, none⟩) 2 kcap) ∧ W.cell? ⟨g, off, none⟩ = some (Value.int .i64 (opOf e)) ∧ W.cell? ⟨g, off + 1, none⟩ = some (Value.int .i64 (nOf e)) ∧ W.cell? ⟨g, off + 2, none⟩ = some s1 ∧ W.cell? ⟨g, off + 3, none⟩ = some (Value.int .i64 (opOf f)) ∧ W.cell? ⟨g, off + 4, none⟩ = some (Value.int .i64 (nOf f)) ∧ W.cell? ⟨g, off + 5, none⟩ = some s2 ∧ Below w.heap.size w W)) => (hp W s1 (.slice a vs.length cap) (t1.below h.2.2.2.2.2.2.2 e) (Sl.below hn h.2.2.2.2.2.2.2)).mono (fun _ (w' : World) ⟨h1, h2⟩ => (⟨h1, S2.next h h2⟩ : _ ∧ (w'.cell? ⟨w.heap.size, 2, none⟩ = some (Value.slice (some ⟨g, off, none⟩) 2 kcap) ∧ w'.cell? ⟨g, off, none⟩ = some (Value.int .i64 (opOf e)) ∧ w'.cell? ⟨g, off + 1, none⟩ = some (Value.int .i64 (nOf e)) ∧ w'.cell? ⟨g, off + 2, none⟩ = some s1 ∧ w'.cell? ⟨g, off + 3, none⟩ = some (Value.int .i64 (opOf f)) ∧ w'.cell? ⟨g, off + 4, none⟩ = some (Value.int .i64 (nOf f)) ∧ w'.cell? ⟨g, off + 5, none⟩ = some s2 ∧ Below w.heap.size w w'))))
  have HP2 := Lib.hid (fun (W : World) (h : (W.cell? ⟨w.heap.size, 2, none⟩ = some (Value.slice (some ⟨g, off, none⟩) 2 kcap) ∧ W.cell? ⟨g, off, none⟩ = some (Value.int .i64 (opOf e)) ∧ W.cell? ⟨g, off + 1, none⟩ = some (Value.int .i64 (nOf e)) ∧ W.cell? ⟨g, off + 2, none⟩ = some s1 ∧ W.cell? ⟨g, off + 3, none⟩ = some (Value.int .i64 (opOf f)) ∧ W.cell? ⟨g, off + 4, none⟩ = some (Value.int .i64 (nOf f)) ∧ W.cell? ⟨g, off + 5, none⟩ = some s2 ∧ Below w.heap.size w W)) => (hq W s2 (.slice a vs.length cap) (t2.below h.2.2.2.2.2.2.2 f) (Sl.below hn h.2.2.2.2.2.2.2)).mono (fun _ (w' : World) ⟨h1, h2⟩ => (⟨h1, S2.next h h2⟩ : _ ∧ (w'.cell? ⟨w.heap.size, 2, none⟩ = some (Value.slice (some ⟨g, off, none⟩) 2 kcap) ∧ w'.cell? ⟨g, off, none⟩ = some (Value.int .i64 (opOf e)) ∧ w'.cell? ⟨g, off + 1, none⟩ = some (Value.int .i64 (nOf e)) ∧ w'.cell? ⟨g, off + 2, none⟩ = some s1 ∧ w'.cell? ⟨g, off + 3, none⟩ = some (Value.int .i64 (opOf f)) ∧ w'.cell? ⟨g, off + 4, none⟩ = some (Value.int .i64 (nOf f)) ∧ w'.cell? ⟨g, off + 5, none⟩ = some s2 ∧ Below w.heap.size w w'))))
  have hsz1 : (text vs e).length ≤ 2305843009213693000 := hl1
  have hsz2 : (text vs f).length ≤ 2305843009213693000 := hl2
  obtain ⟨O1, hO1⟩ : ∃ O, opOf e = O := ⟨_, rfl⟩
  obtain ⟨X1, hX1⟩ : ∃ X, nOf e = X := ⟨_, rfl⟩
  obtain ⟨T1, hT1⟩ : ∃ T, text vs e = T := ⟨_, rfl⟩
  obtain ⟨O2, hO2⟩ : ∃ O, opOf f = O := ⟨_, rfl⟩
  obtain ⟨X2, hX2⟩ : ∃ X, nOf f = X := ⟨_, rfl⟩
  obtain ⟨T2, hT2⟩ : ∃ T, text vs f = T := ⟨_, rfl⟩
  rw [hO1, hX1, hO2, hX2] at HP1 HP2
  rw [hT1] at HP1 htx hsz1
  rw [hT2] at HP2 htx hsz2
  rw [hO1] at k0
  rw [hX1] at k1
  rw [hO2] at l0
  rw [hX2] at l1
  obtain ⟨U1, hU1⟩ : ∃ U, (wmax ++ [40] : Bs) ++ T1 = U := ⟨_, rfl⟩
  obtain ⟨U2, hU2⟩ : ∃ U, U1 ++ [44, 32] = U := ⟨_, rfl⟩
  obtain ⟨U3, hU3⟩ : ∃ U, U2 ++ T2 = U := ⟨_, rfl⟩
  obtain ⟨U4, hU4⟩ : ∃ U, U3 ++ [41] = U := ⟨_, rfl⟩
  rw [hU1, hU2, hU3, hU4] at htx
  have z1 : U1.length = 4 + T1.length := by rw [← hU1]; simp [wmax]; omega
  have z2 : U2.length = U1.length + 2 := by rw [← hU2]; simp
  have z3 : U3.length = U2.length + T2.length := by rw [← hU3]; simp
  have e1 : ∀ W, (Op.stringOp .add (ByteArray.mk #[109, 97, 120, 40]) (str T1)).run Tryz.prog W = .ok (.string (str U1)) W := fun W => by rw [run_string_add_sum W _ _ (by rw [str_size]; show 4 + _ ≤ _; omega), ← hU1, ← str_append]; rfl
  have e2 : ∀ W, (Op.stringOp .add (str U1) (ByteArray.mk #[44, 32])).run Tryz.prog W = .ok (.string (str U2)) W := fun W => by rw [run_string_add_sum W _ _ (by rw [str_size]; show _ + 2 ≤ _; omega), ← hU2, ← str_append]; rfl
  have e3 : ∀ W, (Op.stringOp .add (str U2) (str T2)).run Tryz.prog W = .ok (.string (str U3)) W := fun W => by rw [run_string_add_sum W _ _ (by rw [str_size, str_size]; omega), ← hU3, ← str_append]
  have e4 : ∀ W, (Op.stringOp .add (str U3) (ByteArray.mk #[41])).run Tryz.prog W = .ok (.string (str U4)) W := fun W => by rw [run_string_add_sum W _ _ (by rw [str_size]; show _ + 1 ≤ _; omega), ← hU4, ← str_append]; rfl
  have HTX := Lib.hid htx
  clear hU1 hU2 hU3 hU4 z1 z2 z3 hsz1 hsz2
  have K0 := Lib.hid k0
  have K1 := Lib.hid k1
  have K2 := Lib.hid k2
  have L0 := Lib.hid l0
  have L1 := Lib.hid l1
  have L2 := Lib.hid l2
  clear htx hn k0 k1 k2 t1 l0 l1 l2 t2 hO1 hX1 hT1 hO2 hX2 hT2 hl1 hl2 hp hq hw
  go_enter Tryz.func13, Tryz.ntmps13
  go_wp2_with fail
  refine (HRK.out _).mono ?_
  rintro _ w1 ⟨rfl, hb1⟩
  obtain ⟨c0, c1, c2, hbw⟩ := box_cells (below_box _ _ _ _ hb1)
  have HB1 := Lib.hid hbw
  clear hb1 hbw
  go_upto_region 21 with fail
  have hS0 : (w1.drew.cell? ⟨w.heap.size, 2, none⟩ = some (Value.slice (some ⟨g, off, none⟩) 2 kcap) ∧ w1.drew.cell? ⟨g, off, none⟩ = some (Value.int .i64 O1) ∧ w1.drew.cell? ⟨g, off + 1, none⟩ = some (Value.int .i64 X1) ∧ w1.drew.cell? ⟨g, off + 2, none⟩ = some s1 ∧ w1.drew.cell? ⟨g, off + 3, none⟩ = some (Value.int .i64 O2) ∧ w1.drew.cell? ⟨g, off + 4, none⟩ = some (Value.int .i64 X2) ∧ w1.drew.cell? ⟨g, off + 5, none⟩ = some s2 ∧ Below w.heap.size w w1.drew) := ⟨c2, cell_kept HB1.out.drew K0.out, cell_kept HB1.out.drew K1.out, cell_kept HB1.out.drew K2.out, cell_kept HB1.out.drew L0.out, cell_kept HB1.out.drew L1.out, cell_kept HB1.out.drew L2.out, HB1.out.drew⟩
  clear c0 c1 c2
  go_region_held3 (fun W => (W.cell? ⟨w.heap.size, 2, none⟩ = some (Value.slice (some ⟨g, off, none⟩) 2 kcap) ∧ W.cell? ⟨g, off, none⟩ = some (Value.int .i64 O1) ∧ W.cell? ⟨g, off + 1, none⟩ = some (Value.int .i64 X1) ∧ W.cell? ⟨g, off + 2, none⟩ = some s1 ∧ W.cell? ⟨g, off + 3, none⟩ = some (Value.int .i64 O2) ∧ W.cell? ⟨g, off + 4, none⟩ = some (Value.int .i64 X2) ∧ W.cell? ⟨g, off + 5, none⟩ = some s2 ∧ Below w.heap.size w W)) (first | exact hS0 | assumption) (first | (go_at_call 13; ((with_reducible refine (HP1.out _ ?_).mono ?_); (first | exact hS0 | assumption)); rintro _ w3 ⟨rfl, hS3⟩) | (go_at_call 13; ((with_reducible refine (HP2.out _ ?_).mono ?_); (first | exact hS0 | assumption)); rintro _ w4 ⟨rfl, hS4⟩))
  all_goals
    go_wp2_with fail
    go_ret
    exact ⟨ret_str (by rw [HTX.out]), by first | exact hS4.2.2.2.2.2.2.2 | exact hS3.2.2.2.2.2.2.2⟩
end Go.Proofs.YtbeidmkhpcnbbaaGreatDoor.I

namespace Go.Proofs.YtbeidmkhpcnbbaaGreatDoor.I
open Go Go.RowKit Go.Proofs.YtbeidmkhpcnbbaaGreatDoor.B Go.Proofs.YtbeidmkhpcnbbaaGreatDoor.K Go.Proofs.YtbeidmkhpcnbbaaGreatDoor.E
set_option linter.unusedVariables false

theorem shw_len (vs : List Bs) (e : Ex) (l N : Nat) (h : (text vs e).length ≤ N) : (shw vs e l).length ≤ N + 2 := by
  unfold shw
  split
  · simp only [List.length_append, List.length_cons, List.length_nil]
    omega
  · omega
theorem sign_cell {w w1 : World} {A : Obj} {cs : Array Value} {T : TypeId} (hb : Below ((w.alloc A).alloc (.cells cs T)).heap.size ((w.alloc A).alloc (.cells cs T)) w1) {k : Nat} {u : Value} (hk : cs[k]? = some u) : w1.cell? ⟨w.heap.size + 1, k, none⟩ = some u := by
  rw [(bcell hb).1 _ _ (by simp)]
  have h := cell_of_row ((w.alloc A).alloc (.cells cs T)) (w.alloc A).heap.size k cs T (0, 0) (heap_alloc_at _ _)
  rw [show (w.alloc A).heap.size = w.heap.size + 1 by simp] at h
  rw [h]
  exact hk

set_option maxRecDepth 100000 in
set_option maxHeartbeats 1600000 in
theorem plain_bin6 (vs : List Bs) (nv na : Int) (e f : Ex) (hw : WF nv na (.bin 6 e f)) (hp : Plains vs e) (hq : Plains vs f) (hl1 : (text vs e).length ≤ 2305843009213693000) (hl2 : (text vs f).length ≤ 2305843009213693000) : Plains vs (.bin 6 e f) := by
  intro w s v ht hn
  obtain ⟨a, cap, rfl⟩ := names_len hn
  have HRK := Lib.hid (fun W => (show Calls Tryz.prog 32 #[.agg #[.int .i64 6, .int .i64 0, s]] W fun f w' => f = .returned (.int .i64 4) ∧ Below W.heap.size W w' from refRank_any nv na (.bin 6 e f) hw s W))
  obtain ⟨-, -, g, off, kcap, o1, x1, s1, o2, x2, s2, rfl, k0, k1, k2, t1, l0, l1, l2, t2⟩ := ht
  obtain ⟨rfl, rfl⟩ := t1.root
  obtain ⟨rfl, rfl⟩ := t2.root
  simp only [opOf, nOf]
  have htx : text vs (.bin 6 e f) = shw vs e 4 ++ [32] ++ [43] ++ [32] ++ shw vs f 5 := by rw [← shw_eq, ← shw_eq]; unfold text; rw [pieces, if_neg (by decide)]; show (wrap (rank e) 4 _ ++ [[32], sign 6, [32]] ++ wrap (rank f) 5 _).flatten = _; simp [show sign 6 = [43] from rfl]
  have HP1 := Lib.hid (fun (W : World) (h : (W.cell? ⟨w.heap.size, 0, none⟩ = some (Value.int .i64 6) ∧ W.cell? ⟨w.heap.size + 1, 6, none⟩ = some (Value.string (ByteArray.mk #[43])) ∧ W.cell? ⟨w.heap.size, 2, none⟩ = some (Value.slice (some ⟨g, off, none⟩) 2 kcap) ∧ W.cell? ⟨g, off, none⟩ = some (Value.int .i64 (opOf e)) ∧ W.cell? ⟨g, off + 1, none⟩ = some (Value.int .i64 (nOf e)) ∧ W.cell? ⟨g, off + 2, none⟩ = some s1 ∧ W.cell? ⟨g, off + 3, none⟩ = some (Value.int .i64 (opOf f)) ∧ W.cell? ⟨g, off + 4, none⟩ = some (Value.int .i64 (nOf f)) ∧ W.cell? ⟨g, off + 5, none⟩ = some s2 ∧ Below w.heap.size w W)) => (show Calls Tryz.prog 34 #[.agg #[.int .i64 (opOf e), .int .i64 (nOf e), s1], .int .i64 4, .slice a vs.length cap] W fun r w' => r = .returned (.string (str (shw vs e 4))) ∧ (w'.cell? ⟨w.heap.size, 0, none⟩ = some (Value.int .i64 6) ∧ w'.cell? ⟨w.heap.size + 1, 6, none⟩ = some (Value.string (ByteArray.mk #[43])) ∧ w'.cell? ⟨w.heap.size, 2, none⟩ = some (Value.slice (some ⟨g, off, none⟩) 2 kcap) ∧ w'.cell? ⟨g, off, none⟩ = some (Value.int .i64 (opOf e)) ∧ w'.cell? ⟨g, off + 1, none⟩ = some (Value.int .i64 (nOf e)) ∧ w'.cell? ⟨g, off + 2, none⟩ = some s1 ∧ w'.cell? ⟨g, off + 3, none⟩ = some (Value.int .i64 (opOf f)) ∧ w'.cell? ⟨g, off + 4, none⟩ = some (Value.int .i64 (nOf f)) ∧ w'.cell? ⟨g, off + 5, none⟩ = some s2 ∧ Below w.heap.size w w') from (refShown_of vs nv na e hw.2.1 hp 4 (by decide) (by omega) W s1 (.slice a vs.length cap) (t1.below h.2.2.2.2.2.2.2.2.2 e) (Sl.below hn h.2.2.2.2.2.2.2.2.2)).mono (fun _ (w' : World) ⟨h1, h2⟩ => (⟨h1, cell_kept h2 h.1, cell_kept h2 h.2.1, S2.next h.2.2 h2⟩ : _ ∧ (w'.cell? ⟨w.heap.size, 0, none⟩ = some (Value.int .i64 6) ∧ w'.cell? ⟨w.heap.size + 1, 6, none⟩ = some (Value.string (ByteArray.mk #[43])) ∧ w'.cell? ⟨w.heap.size, 2, none⟩ = some (Value.slice (some ⟨g, off, none⟩) 2 kcap) ∧ w'.cell? ⟨g, off, none⟩ = some (Value.int .i64 (opOf e)) ∧ w'.cell? ⟨g, off + 1, none⟩ = some (Value.int .i64 (nOf e)) ∧ w'.cell? ⟨g, off + 2, none⟩ = some s1 ∧ w'.cell? ⟨g, off + 3, none⟩ = some (Value.int .i64 (opOf f)) ∧ w'.cell? ⟨g, off + 4, none⟩ = some (Value.int .i64 (nOf f)) ∧ w'.cell? ⟨g, off + 5, none⟩ = some s2 ∧ Below w.heap.size w w')))))
  have HP2 := Lib.hid (fun (W : World) (h : (W.cell? ⟨w.heap.size, 0, none⟩ = some (Value.int .i64 6) ∧ W.cell? ⟨w.heap.size + 1, 6, none⟩ = some (Value.string (ByteArray.mk #[43])) ∧ W.cell? ⟨w.heap.size, 2, none⟩ = some (Value.slice (some ⟨g, off, none⟩) 2 kcap) ∧ W.cell? ⟨g, off, none⟩ = some (Value.int .i64 (opOf e)) ∧ W.cell? ⟨g, off + 1, none⟩ = some (Value.int .i64 (nOf e)) ∧ W.cell? ⟨g, off + 2, none⟩ = some s1 ∧ W.cell? ⟨g, off + 3, none⟩ = some (Value.int .i64 (opOf f)) ∧ W.cell? ⟨g, off + 4, none⟩ = some (Value.int .i64 (nOf f)) ∧ W.cell? ⟨g, off + 5, none⟩ = some s2 ∧ Below w.heap.size w W)) => (show Calls Tryz.prog 34 #[.agg #[.int .i64 (opOf f), .int .i64 (nOf f), s2], .int .i64 5, .slice a vs.length cap] W fun r w' => r = .returned (.string (str (shw vs f 5))) ∧ (w'.cell? ⟨w.heap.size, 0, none⟩ = some (Value.int .i64 6) ∧ w'.cell? ⟨w.heap.size + 1, 6, none⟩ = some (Value.string (ByteArray.mk #[43])) ∧ w'.cell? ⟨w.heap.size, 2, none⟩ = some (Value.slice (some ⟨g, off, none⟩) 2 kcap) ∧ w'.cell? ⟨g, off, none⟩ = some (Value.int .i64 (opOf e)) ∧ w'.cell? ⟨g, off + 1, none⟩ = some (Value.int .i64 (nOf e)) ∧ w'.cell? ⟨g, off + 2, none⟩ = some s1 ∧ w'.cell? ⟨g, off + 3, none⟩ = some (Value.int .i64 (opOf f)) ∧ w'.cell? ⟨g, off + 4, none⟩ = some (Value.int .i64 (nOf f)) ∧ w'.cell? ⟨g, off + 5, none⟩ = some s2 ∧ Below w.heap.size w w') from (refShown_of vs nv na f hw.2.2 hq 5 (by decide) (by omega) W s2 (.slice a vs.length cap) (t2.below h.2.2.2.2.2.2.2.2.2 f) (Sl.below hn h.2.2.2.2.2.2.2.2.2)).mono (fun _ (w' : World) ⟨h1, h2⟩ => (⟨h1, cell_kept h2 h.1, cell_kept h2 h.2.1, S2.next h.2.2 h2⟩ : _ ∧ (w'.cell? ⟨w.heap.size, 0, none⟩ = some (Value.int .i64 6) ∧ w'.cell? ⟨w.heap.size + 1, 6, none⟩ = some (Value.string (ByteArray.mk #[43])) ∧ w'.cell? ⟨w.heap.size, 2, none⟩ = some (Value.slice (some ⟨g, off, none⟩) 2 kcap) ∧ w'.cell? ⟨g, off, none⟩ = some (Value.int .i64 (opOf e)) ∧ w'.cell? ⟨g, off + 1, none⟩ = some (Value.int .i64 (nOf e)) ∧ w'.cell? ⟨g, off + 2, none⟩ = some s1 ∧ w'.cell? ⟨g, off + 3, none⟩ = some (Value.int .i64 (opOf f)) ∧ w'.cell? ⟨g, off + 4, none⟩ = some (Value.int .i64 (nOf f)) ∧ w'.cell? ⟨g, off + 5, none⟩ = some s2 ∧ Below w.heap.size w w')))))
  have hsz1 : (shw vs e 4).length ≤ 2305843009213693002 := shw_len vs e 4 _ hl1
  have hsz2 : (shw vs f 5).length ≤ 2305843009213693002 := shw_len vs f 5 _ hl2
  obtain ⟨O1, hO1⟩ : ∃ O, opOf e = O := ⟨_, rfl⟩
  obtain ⟨X1, hX1⟩ : ∃ X, nOf e = X := ⟨_, rfl⟩
  obtain ⟨T1, hT1⟩ : ∃ T, shw vs e 4 = T := ⟨_, rfl⟩
  obtain ⟨O2, hO2⟩ : ∃ O, opOf f = O := ⟨_, rfl⟩
  obtain ⟨X2, hX2⟩ : ∃ X, nOf f = X := ⟨_, rfl⟩
  obtain ⟨T2, hT2⟩ : ∃ T, shw vs f 5 = T := ⟨_, rfl⟩
  rw [hO1, hX1, hO2, hX2] at HP1 HP2
  rw [hT1] at HP1 htx hsz1
  rw [hT2] at HP2 htx hsz2
  rw [hO1] at k0
  rw [hX1] at k1
  rw [hO2] at l0
  rw [hX2] at l1
  obtain ⟨U1, hU1⟩ : ∃ U, T1 ++ ([32] : Bs) = U := ⟨_, rfl⟩
  obtain ⟨U2, hU2⟩ : ∃ U, U1 ++ [43] = U := ⟨_, rfl⟩
  obtain ⟨U3, hU3⟩ : ∃ U, U2 ++ [32] = U := ⟨_, rfl⟩
  obtain ⟨U4, hU4⟩ : ∃ U, U3 ++ T2 = U := ⟨_, rfl⟩
  rw [hU1, hU2, hU3, hU4] at htx
  have z1 : U1.length = T1.length + 1 := by rw [← hU1]; simp
  have z2 : U2.length = U1.length + 1 := by rw [← hU2]; simp
  have z3 : U3.length = U2.length + 1 := by rw [← hU3]; simp
  have e1 : ∀ W, (Op.stringOp .add (str T1) (ByteArray.mk #[32])).run Tryz.prog W = .ok (.string (str U1)) W := fun W => by rw [run_string_add_sum W _ _ (by rw [str_size]; show _ + 1 ≤ _; omega), ← hU1, ← str_append]; rfl
  have e2 : ∀ W, (Op.stringOp .add (str U1) (ByteArray.mk #[43])).run Tryz.prog W = .ok (.string (str U2)) W := fun W => by rw [run_string_add_sum W _ _ (by rw [str_size]; show _ + 1 ≤ _; omega), ← hU2, ← str_append]; rfl
  have e3 : ∀ W, (Op.stringOp .add (str U2) (ByteArray.mk #[32])).run Tryz.prog W = .ok (.string (str U3)) W := fun W => by rw [run_string_add_sum W _ _ (by rw [str_size]; show _ + 1 ≤ _; omega), ← hU3, ← str_append]; rfl
  have e4 : ∀ W, (Op.stringOp .add (str U3) (str T2)).run Tryz.prog W = .ok (.string (str U4)) W := fun W => by rw [run_string_add_sum W _ _ (by rw [str_size, str_size]; omega), ← hU4, ← str_append]
  have hwr : IntKind.i64.wrap 5 = 5 := by decide
  have HTX := Lib.hid htx
  clear hU1 hU2 hU3 hU4 z1 z2 z3 hsz1 hsz2
  have K0 := Lib.hid k0
  have K1 := Lib.hid k1
  have K2 := Lib.hid k2
  have L0 := Lib.hid l0
  have L1 := Lib.hid l1
  have L2 := Lib.hid l2
  clear htx hn k0 k1 k2 t1 l0 l1 l2 t2 hO1 hX1 hT1 hO2 hX2 hT2 hl1 hl2 hp hq hw
  go_enter Tryz.func13, Tryz.ntmps13
  go_wp2_with fail
  refine (HRK.out _).mono ?_
  rintro _ w1 ⟨rfl, hb1⟩
  have csg := sign_cell hb1 (k := 6) (u := Value.string (ByteArray.mk #[43])) rfl
  obtain ⟨c0, c1, c2, hbw⟩ := box_cells (below_box _ _ _ _ hb1)
  have HB1 := Lib.hid hbw
  clear hb1 hbw
  go_upto_region 27 with fail
  have hS0 : (w1.drew.cell? ⟨w.heap.size, 0, none⟩ = some (Value.int .i64 6) ∧ w1.drew.cell? ⟨w.heap.size + 1, 6, none⟩ = some (Value.string (ByteArray.mk #[43])) ∧ w1.drew.cell? ⟨w.heap.size, 2, none⟩ = some (Value.slice (some ⟨g, off, none⟩) 2 kcap) ∧ w1.drew.cell? ⟨g, off, none⟩ = some (Value.int .i64 O1) ∧ w1.drew.cell? ⟨g, off + 1, none⟩ = some (Value.int .i64 X1) ∧ w1.drew.cell? ⟨g, off + 2, none⟩ = some s1 ∧ w1.drew.cell? ⟨g, off + 3, none⟩ = some (Value.int .i64 O2) ∧ w1.drew.cell? ⟨g, off + 4, none⟩ = some (Value.int .i64 X2) ∧ w1.drew.cell? ⟨g, off + 5, none⟩ = some s2 ∧ Below w.heap.size w w1.drew) := ⟨c0, csg, c2, cell_kept HB1.out.drew K0.out, cell_kept HB1.out.drew K1.out, cell_kept HB1.out.drew K2.out, cell_kept HB1.out.drew L0.out, cell_kept HB1.out.drew L1.out, cell_kept HB1.out.drew L2.out, HB1.out.drew⟩
  clear c0 c1 c2 csg
  go_region_held3 (fun W => (W.cell? ⟨w.heap.size, 0, none⟩ = some (Value.int .i64 6) ∧ W.cell? ⟨w.heap.size + 1, 6, none⟩ = some (Value.string (ByteArray.mk #[43])) ∧ W.cell? ⟨w.heap.size, 2, none⟩ = some (Value.slice (some ⟨g, off, none⟩) 2 kcap) ∧ W.cell? ⟨g, off, none⟩ = some (Value.int .i64 O1) ∧ W.cell? ⟨g, off + 1, none⟩ = some (Value.int .i64 X1) ∧ W.cell? ⟨g, off + 2, none⟩ = some s1 ∧ W.cell? ⟨g, off + 3, none⟩ = some (Value.int .i64 O2) ∧ W.cell? ⟨g, off + 4, none⟩ = some (Value.int .i64 X2) ∧ W.cell? ⟨g, off + 5, none⟩ = some s2 ∧ Below w.heap.size w W)) (first | exact hS0 | assumption) (first | (go_at_call 34; ((with_reducible refine (HP1.out _ ?_).mono ?_); (first | exact hS0 | assumption)); rintro _ w3 ⟨rfl, hS3⟩) | (go_at_call 34; ((with_reducible refine (HP2.out _ ?_).mono ?_); (first | exact hS0 | assumption)); rintro _ w4 ⟨rfl, hS4⟩))
  all_goals
    go_wp2_with fail
    go_ret
    exact ⟨ret_str (by rw [HTX.out]), by first | exact hS4.2.2.2.2.2.2.2.2.2 | exact hS3.2.2.2.2.2.2.2.2.2⟩

set_option maxRecDepth 100000 in
set_option maxHeartbeats 1600000 in
theorem plain_bin7 (vs : List Bs) (nv na : Int) (e f : Ex) (hw : WF nv na (.bin 7 e f)) (hp : Plains vs e) (hq : Plains vs f) (hl1 : (text vs e).length ≤ 2305843009213693000) (hl2 : (text vs f).length ≤ 2305843009213693000) : Plains vs (.bin 7 e f) := by
  intro w s v ht hn
  obtain ⟨a, cap, rfl⟩ := names_len hn
  have HRK := Lib.hid (fun W => (show Calls Tryz.prog 32 #[.agg #[.int .i64 7, .int .i64 0, s]] W fun f w' => f = .returned (.int .i64 4) ∧ Below W.heap.size W w' from refRank_any nv na (.bin 7 e f) hw s W))
  obtain ⟨-, -, g, off, kcap, o1, x1, s1, o2, x2, s2, rfl, k0, k1, k2, t1, l0, l1, l2, t2⟩ := ht
  obtain ⟨rfl, rfl⟩ := t1.root
  obtain ⟨rfl, rfl⟩ := t2.root
  simp only [opOf, nOf]
  have htx : text vs (.bin 7 e f) = shw vs e 4 ++ [32] ++ [45] ++ [32] ++ shw vs f 5 := by rw [← shw_eq, ← shw_eq]; unfold text; rw [pieces, if_neg (by decide)]; show (wrap (rank e) 4 _ ++ [[32], sign 7, [32]] ++ wrap (rank f) 5 _).flatten = _; simp [show sign 7 = [45] from rfl]
  have HP1 := Lib.hid (fun (W : World) (h : (W.cell? ⟨w.heap.size, 0, none⟩ = some (Value.int .i64 7) ∧ W.cell? ⟨w.heap.size + 1, 7, none⟩ = some (Value.string (ByteArray.mk #[45])) ∧ W.cell? ⟨w.heap.size, 2, none⟩ = some (Value.slice (some ⟨g, off, none⟩) 2 kcap) ∧ W.cell? ⟨g, off, none⟩ = some (Value.int .i64 (opOf e)) ∧ W.cell? ⟨g, off + 1, none⟩ = some (Value.int .i64 (nOf e)) ∧ W.cell? ⟨g, off + 2, none⟩ = some s1 ∧ W.cell? ⟨g, off + 3, none⟩ = some (Value.int .i64 (opOf f)) ∧ W.cell? ⟨g, off + 4, none⟩ = some (Value.int .i64 (nOf f)) ∧ W.cell? ⟨g, off + 5, none⟩ = some s2 ∧ Below w.heap.size w W)) => (show Calls Tryz.prog 34 #[.agg #[.int .i64 (opOf e), .int .i64 (nOf e), s1], .int .i64 4, .slice a vs.length cap] W fun r w' => r = .returned (.string (str (shw vs e 4))) ∧ (w'.cell? ⟨w.heap.size, 0, none⟩ = some (Value.int .i64 7) ∧ w'.cell? ⟨w.heap.size + 1, 7, none⟩ = some (Value.string (ByteArray.mk #[45])) ∧ w'.cell? ⟨w.heap.size, 2, none⟩ = some (Value.slice (some ⟨g, off, none⟩) 2 kcap) ∧ w'.cell? ⟨g, off, none⟩ = some (Value.int .i64 (opOf e)) ∧ w'.cell? ⟨g, off + 1, none⟩ = some (Value.int .i64 (nOf e)) ∧ w'.cell? ⟨g, off + 2, none⟩ = some s1 ∧ w'.cell? ⟨g, off + 3, none⟩ = some (Value.int .i64 (opOf f)) ∧ w'.cell? ⟨g, off + 4, none⟩ = some (Value.int .i64 (nOf f)) ∧ w'.cell? ⟨g, off + 5, none⟩ = some s2 ∧ Below w.heap.size w w') from (refShown_of vs nv na e hw.2.1 hp 4 (by decide) (by omega) W s1 (.slice a vs.length cap) (t1.below h.2.2.2.2.2.2.2.2.2 e) (Sl.below hn h.2.2.2.2.2.2.2.2.2)).mono (fun _ (w' : World) ⟨h1, h2⟩ => (⟨h1, cell_kept h2 h.1, cell_kept h2 h.2.1, S2.next h.2.2 h2⟩ : _ ∧ (w'.cell? ⟨w.heap.size, 0, none⟩ = some (Value.int .i64 7) ∧ w'.cell? ⟨w.heap.size + 1, 7, none⟩ = some (Value.string (ByteArray.mk #[45])) ∧ w'.cell? ⟨w.heap.size, 2, none⟩ = some (Value.slice (some ⟨g, off, none⟩) 2 kcap) ∧ w'.cell? ⟨g, off, none⟩ = some (Value.int .i64 (opOf e)) ∧ w'.cell? ⟨g, off + 1, none⟩ = some (Value.int .i64 (nOf e)) ∧ w'.cell? ⟨g, off + 2, none⟩ = some s1 ∧ w'.cell? ⟨g, off + 3, none⟩ = some (Value.int .i64 (opOf f)) ∧ w'.cell? ⟨g, off + 4, none⟩ = some (Value.int .i64 (nOf f)) ∧ w'.cell? ⟨g, off + 5, none⟩ = some s2 ∧ Below w.heap.size w w')))))
  have HP2 := Lib.hid (fun (W : World) (h : (W.cell? ⟨w.heap.size, 0, none⟩ = some (Value.int .i64 7) ∧ W.cell? ⟨w.heap.size + 1, 7, none⟩ = some (Value.string (ByteArray.mk #[45])) ∧ W.cell? ⟨w.heap.size, 2, none⟩ = some (Value.slice (some ⟨g, off, none⟩) 2 kcap) ∧ W.cell? ⟨g, off, none⟩ = some (Value.int .i64 (opOf e)) ∧ W.cell? ⟨g, off + 1, none⟩ = some (Value.int .i64 (nOf e)) ∧ W.cell? ⟨g, off + 2, none⟩ = some s1 ∧ W.cell? ⟨g, off + 3, none⟩ = some (Value.int .i64 (opOf f)) ∧ W.cell? ⟨g, off + 4, none⟩ = some (Value.int .i64 (nOf f)) ∧ W.cell? ⟨g, off + 5, none⟩ = some s2 ∧ Below w.heap.size w W)) => (show Calls Tryz.prog 34 #[.agg #[.int .i64 (opOf f), .int .i64 (nOf f), s2], .int .i64 5, .slice a vs.length cap] W fun r w' => r = .returned (.string (str (shw vs f 5))) ∧ (w'.cell? ⟨w.heap.size, 0, none⟩ = some (Value.int .i64 7) ∧ w'.cell? ⟨w.heap.size + 1, 7, none⟩ = some (Value.string (ByteArray.mk #[45])) ∧ w'.cell? ⟨w.heap.size, 2, none⟩ = some (Value.slice (some ⟨g, off, none⟩) 2 kcap) ∧ w'.cell? ⟨g, off, none⟩ = some (Value.int .i64 (opOf e)) ∧ w'.cell? ⟨g, off + 1, none⟩ = some (Value.int .i64 (nOf e)) ∧ w'.cell? ⟨g, off + 2, none⟩ = some s1 ∧ w'.cell? ⟨g, off + 3, none⟩ = some (Value.int .i64 (opOf f)) ∧ w'.cell? ⟨g, off + 4, none⟩ = some (Value.int .i64 (nOf f)) ∧ w'.cell? ⟨g, off + 5, none⟩ = some s2 ∧ Below w.heap.size w w') from (refShown_of vs nv na f hw.2.2 hq 5 (by decide) (by omega) W s2 (.slice a vs.length cap) (t2.below h.2.2.2.2.2.2.2.2.2 f) (Sl.below hn h.2.2.2.2.2.2.2.2.2)).mono (fun _ (w' : World) ⟨h1, h2⟩ => (⟨h1, cell_kept h2 h.1, cell_kept h2 h.2.1, S2.next h.2.2 h2⟩ : _ ∧ (w'.cell? ⟨w.heap.size, 0, none⟩ = some (Value.int .i64 7) ∧ w'.cell? ⟨w.heap.size + 1, 7, none⟩ = some (Value.string (ByteArray.mk #[45])) ∧ w'.cell? ⟨w.heap.size, 2, none⟩ = some (Value.slice (some ⟨g, off, none⟩) 2 kcap) ∧ w'.cell? ⟨g, off, none⟩ = some (Value.int .i64 (opOf e)) ∧ w'.cell? ⟨g, off + 1, none⟩ = some (Value.int .i64 (nOf e)) ∧ w'.cell? ⟨g, off + 2, none⟩ = some s1 ∧ w'.cell? ⟨g, off + 3, none⟩ = some (Value.int .i64 (opOf f)) ∧ w'.cell? ⟨g, off + 4, none⟩ = some (Value.int .i64 (nOf f)) ∧ w'.cell? ⟨g, off + 5, none⟩ = some s2 ∧ Below w.heap.size w w')))))
  have hsz1 : (shw vs e 4).length ≤ 2305843009213693002 := shw_len vs e 4 _ hl1
  have hsz2 : (shw vs f 5).length ≤ 2305843009213693002 := shw_len vs f 5 _ hl2
  obtain ⟨O1, hO1⟩ : ∃ O, opOf e = O := ⟨_, rfl⟩
  obtain ⟨X1, hX1⟩ : ∃ X, nOf e = X := ⟨_, rfl⟩
  obtain ⟨T1, hT1⟩ : ∃ T, shw vs e 4 = T := ⟨_, rfl⟩
  obtain ⟨O2, hO2⟩ : ∃ O, opOf f = O := ⟨_, rfl⟩
  obtain ⟨X2, hX2⟩ : ∃ X, nOf f = X := ⟨_, rfl⟩
  obtain ⟨T2, hT2⟩ : ∃ T, shw vs f 5 = T := ⟨_, rfl⟩
  rw [hO1, hX1, hO2, hX2] at HP1 HP2
  rw [hT1] at HP1 htx hsz1
  rw [hT2] at HP2 htx hsz2
  rw [hO1] at k0
  rw [hX1] at k1
  rw [hO2] at l0
  rw [hX2] at l1
  obtain ⟨U1, hU1⟩ : ∃ U, T1 ++ ([32] : Bs) = U := ⟨_, rfl⟩
  obtain ⟨U2, hU2⟩ : ∃ U, U1 ++ [45] = U := ⟨_, rfl⟩
  obtain ⟨U3, hU3⟩ : ∃ U, U2 ++ [32] = U := ⟨_, rfl⟩
  obtain ⟨U4, hU4⟩ : ∃ U, U3 ++ T2 = U := ⟨_, rfl⟩
  rw [hU1, hU2, hU3, hU4] at htx
  have z1 : U1.length = T1.length + 1 := by rw [← hU1]; simp
  have z2 : U2.length = U1.length + 1 := by rw [← hU2]; simp
  have z3 : U3.length = U2.length + 1 := by rw [← hU3]; simp
  have e1 : ∀ W, (Op.stringOp .add (str T1) (ByteArray.mk #[32])).run Tryz.prog W = .ok (.string (str U1)) W := fun W => by rw [run_string_add_sum W _ _ (by rw [str_size]; show _ + 1 ≤ _; omega), ← hU1, ← str_append]; rfl
  have e2 : ∀ W, (Op.stringOp .add (str U1) (ByteArray.mk #[45])).run Tryz.prog W = .ok (.string (str U2)) W := fun W => by rw [run_string_add_sum W _ _ (by rw [str_size]; show _ + 1 ≤ _; omega), ← hU2, ← str_append]; rfl
  have e3 : ∀ W, (Op.stringOp .add (str U2) (ByteArray.mk #[32])).run Tryz.prog W = .ok (.string (str U3)) W := fun W => by rw [run_string_add_sum W _ _ (by rw [str_size]; show _ + 1 ≤ _; omega), ← hU3, ← str_append]; rfl
  have e4 : ∀ W, (Op.stringOp .add (str U3) (str T2)).run Tryz.prog W = .ok (.string (str U4)) W := fun W => by rw [run_string_add_sum W _ _ (by rw [str_size, str_size]; omega), ← hU4, ← str_append]
  have hwr : IntKind.i64.wrap 5 = 5 := by decide
  have HTX := Lib.hid htx
  clear hU1 hU2 hU3 hU4 z1 z2 z3 hsz1 hsz2
  have K0 := Lib.hid k0
  have K1 := Lib.hid k1
  have K2 := Lib.hid k2
  have L0 := Lib.hid l0
  have L1 := Lib.hid l1
  have L2 := Lib.hid l2
  clear htx hn k0 k1 k2 t1 l0 l1 l2 t2 hO1 hX1 hT1 hO2 hX2 hT2 hl1 hl2 hp hq hw
  go_enter Tryz.func13, Tryz.ntmps13
  go_wp2_with fail
  refine (HRK.out _).mono ?_
  rintro _ w1 ⟨rfl, hb1⟩
  have csg := sign_cell hb1 (k := 7) (u := Value.string (ByteArray.mk #[45])) rfl
  obtain ⟨c0, c1, c2, hbw⟩ := box_cells (below_box _ _ _ _ hb1)
  have HB1 := Lib.hid hbw
  clear hb1 hbw
  go_upto_region 27 with fail
  have hS0 : (w1.drew.cell? ⟨w.heap.size, 0, none⟩ = some (Value.int .i64 7) ∧ w1.drew.cell? ⟨w.heap.size + 1, 7, none⟩ = some (Value.string (ByteArray.mk #[45])) ∧ w1.drew.cell? ⟨w.heap.size, 2, none⟩ = some (Value.slice (some ⟨g, off, none⟩) 2 kcap) ∧ w1.drew.cell? ⟨g, off, none⟩ = some (Value.int .i64 O1) ∧ w1.drew.cell? ⟨g, off + 1, none⟩ = some (Value.int .i64 X1) ∧ w1.drew.cell? ⟨g, off + 2, none⟩ = some s1 ∧ w1.drew.cell? ⟨g, off + 3, none⟩ = some (Value.int .i64 O2) ∧ w1.drew.cell? ⟨g, off + 4, none⟩ = some (Value.int .i64 X2) ∧ w1.drew.cell? ⟨g, off + 5, none⟩ = some s2 ∧ Below w.heap.size w w1.drew) := ⟨c0, csg, c2, cell_kept HB1.out.drew K0.out, cell_kept HB1.out.drew K1.out, cell_kept HB1.out.drew K2.out, cell_kept HB1.out.drew L0.out, cell_kept HB1.out.drew L1.out, cell_kept HB1.out.drew L2.out, HB1.out.drew⟩
  clear c0 c1 c2 csg
  go_region_held3 (fun W => (W.cell? ⟨w.heap.size, 0, none⟩ = some (Value.int .i64 7) ∧ W.cell? ⟨w.heap.size + 1, 7, none⟩ = some (Value.string (ByteArray.mk #[45])) ∧ W.cell? ⟨w.heap.size, 2, none⟩ = some (Value.slice (some ⟨g, off, none⟩) 2 kcap) ∧ W.cell? ⟨g, off, none⟩ = some (Value.int .i64 O1) ∧ W.cell? ⟨g, off + 1, none⟩ = some (Value.int .i64 X1) ∧ W.cell? ⟨g, off + 2, none⟩ = some s1 ∧ W.cell? ⟨g, off + 3, none⟩ = some (Value.int .i64 O2) ∧ W.cell? ⟨g, off + 4, none⟩ = some (Value.int .i64 X2) ∧ W.cell? ⟨g, off + 5, none⟩ = some s2 ∧ Below w.heap.size w W)) (first | exact hS0 | assumption) (first | (go_at_call 34; ((with_reducible refine (HP1.out _ ?_).mono ?_); (first | exact hS0 | assumption)); rintro _ w3 ⟨rfl, hS3⟩) | (go_at_call 34; ((with_reducible refine (HP2.out _ ?_).mono ?_); (first | exact hS0 | assumption)); rintro _ w4 ⟨rfl, hS4⟩))
  all_goals
    go_wp2_with fail
    go_ret
    exact ⟨ret_str (by rw [HTX.out]), by first | exact hS4.2.2.2.2.2.2.2.2.2 | exact hS3.2.2.2.2.2.2.2.2.2⟩

set_option maxRecDepth 100000 in
set_option maxHeartbeats 1600000 in
theorem plain_bin8 (vs : List Bs) (nv na : Int) (e f : Ex) (hw : WF nv na (.bin 8 e f)) (hp : Plains vs e) (hq : Plains vs f) (hl1 : (text vs e).length ≤ 2305843009213693000) (hl2 : (text vs f).length ≤ 2305843009213693000) : Plains vs (.bin 8 e f) := by
  intro w s v ht hn
  obtain ⟨a, cap, rfl⟩ := names_len hn
  have HRK := Lib.hid (fun W => (show Calls Tryz.prog 32 #[.agg #[.int .i64 8, .int .i64 0, s]] W fun f w' => f = .returned (.int .i64 5) ∧ Below W.heap.size W w' from refRank_any nv na (.bin 8 e f) hw s W))
  obtain ⟨-, -, g, off, kcap, o1, x1, s1, o2, x2, s2, rfl, k0, k1, k2, t1, l0, l1, l2, t2⟩ := ht
  obtain ⟨rfl, rfl⟩ := t1.root
  obtain ⟨rfl, rfl⟩ := t2.root
  simp only [opOf, nOf]
  have htx : text vs (.bin 8 e f) = shw vs e 5 ++ [32] ++ [42] ++ [32] ++ shw vs f 6 := by rw [← shw_eq, ← shw_eq]; unfold text; rw [pieces, if_neg (by decide)]; show (wrap (rank e) 5 _ ++ [[32], sign 8, [32]] ++ wrap (rank f) 6 _).flatten = _; simp [show sign 8 = [42] from rfl]
  have HP1 := Lib.hid (fun (W : World) (h : (W.cell? ⟨w.heap.size, 0, none⟩ = some (Value.int .i64 8) ∧ W.cell? ⟨w.heap.size + 1, 8, none⟩ = some (Value.string (ByteArray.mk #[42])) ∧ W.cell? ⟨w.heap.size, 2, none⟩ = some (Value.slice (some ⟨g, off, none⟩) 2 kcap) ∧ W.cell? ⟨g, off, none⟩ = some (Value.int .i64 (opOf e)) ∧ W.cell? ⟨g, off + 1, none⟩ = some (Value.int .i64 (nOf e)) ∧ W.cell? ⟨g, off + 2, none⟩ = some s1 ∧ W.cell? ⟨g, off + 3, none⟩ = some (Value.int .i64 (opOf f)) ∧ W.cell? ⟨g, off + 4, none⟩ = some (Value.int .i64 (nOf f)) ∧ W.cell? ⟨g, off + 5, none⟩ = some s2 ∧ Below w.heap.size w W)) => (show Calls Tryz.prog 34 #[.agg #[.int .i64 (opOf e), .int .i64 (nOf e), s1], .int .i64 5, .slice a vs.length cap] W fun r w' => r = .returned (.string (str (shw vs e 5))) ∧ (w'.cell? ⟨w.heap.size, 0, none⟩ = some (Value.int .i64 8) ∧ w'.cell? ⟨w.heap.size + 1, 8, none⟩ = some (Value.string (ByteArray.mk #[42])) ∧ w'.cell? ⟨w.heap.size, 2, none⟩ = some (Value.slice (some ⟨g, off, none⟩) 2 kcap) ∧ w'.cell? ⟨g, off, none⟩ = some (Value.int .i64 (opOf e)) ∧ w'.cell? ⟨g, off + 1, none⟩ = some (Value.int .i64 (nOf e)) ∧ w'.cell? ⟨g, off + 2, none⟩ = some s1 ∧ w'.cell? ⟨g, off + 3, none⟩ = some (Value.int .i64 (opOf f)) ∧ w'.cell? ⟨g, off + 4, none⟩ = some (Value.int .i64 (nOf f)) ∧ w'.cell? ⟨g, off + 5, none⟩ = some s2 ∧ Below w.heap.size w w') from (refShown_of vs nv na e hw.2.1 hp 5 (by decide) (by omega) W s1 (.slice a vs.length cap) (t1.below h.2.2.2.2.2.2.2.2.2 e) (Sl.below hn h.2.2.2.2.2.2.2.2.2)).mono (fun _ (w' : World) ⟨h1, h2⟩ => (⟨h1, cell_kept h2 h.1, cell_kept h2 h.2.1, S2.next h.2.2 h2⟩ : _ ∧ (w'.cell? ⟨w.heap.size, 0, none⟩ = some (Value.int .i64 8) ∧ w'.cell? ⟨w.heap.size + 1, 8, none⟩ = some (Value.string (ByteArray.mk #[42])) ∧ w'.cell? ⟨w.heap.size, 2, none⟩ = some (Value.slice (some ⟨g, off, none⟩) 2 kcap) ∧ w'.cell? ⟨g, off, none⟩ = some (Value.int .i64 (opOf e)) ∧ w'.cell? ⟨g, off + 1, none⟩ = some (Value.int .i64 (nOf e)) ∧ w'.cell? ⟨g, off + 2, none⟩ = some s1 ∧ w'.cell? ⟨g, off + 3, none⟩ = some (Value.int .i64 (opOf f)) ∧ w'.cell? ⟨g, off + 4, none⟩ = some (Value.int .i64 (nOf f)) ∧ w'.cell? ⟨g, off + 5, none⟩ = some s2 ∧ Below w.heap.size w w')))))
  have HP2 := Lib.hid (fun (W : World) (h : (W.cell? ⟨w.heap.size, 0, none⟩ = some (Value.int .i64 8) ∧ W.cell? ⟨w.heap.size + 1, 8, none⟩ = some (Value.string (ByteArray.mk #[42])) ∧ W.cell? ⟨w.heap.size, 2, none⟩ = some (Value.slice (some ⟨g, off, none⟩) 2 kcap) ∧ W.cell? ⟨g, off, none⟩ = some (Value.int .i64 (opOf e)) ∧ W.cell? ⟨g, off + 1, none⟩ = some (Value.int .i64 (nOf e)) ∧ W.cell? ⟨g, off + 2, none⟩ = some s1 ∧ W.cell? ⟨g, off + 3, none⟩ = some (Value.int .i64 (opOf f)) ∧ W.cell? ⟨g, off + 4, none⟩ = some (Value.int .i64 (nOf f)) ∧ W.cell? ⟨g, off + 5, none⟩ = some s2 ∧ Below w.heap.size w W)) => (show Calls Tryz.prog 34 #[.agg #[.int .i64 (opOf f), .int .i64 (nOf f), s2], .int .i64 6, .slice a vs.length cap] W fun r w' => r = .returned (.string (str (shw vs f 6))) ∧ (w'.cell? ⟨w.heap.size, 0, none⟩ = some (Value.int .i64 8) ∧ w'.cell? ⟨w.heap.size + 1, 8, none⟩ = some (Value.string (ByteArray.mk #[42])) ∧ w'.cell? ⟨w.heap.size, 2, none⟩ = some (Value.slice (some ⟨g, off, none⟩) 2 kcap) ∧ w'.cell? ⟨g, off, none⟩ = some (Value.int .i64 (opOf e)) ∧ w'.cell? ⟨g, off + 1, none⟩ = some (Value.int .i64 (nOf e)) ∧ w'.cell? ⟨g, off + 2, none⟩ = some s1 ∧ w'.cell? ⟨g, off + 3, none⟩ = some (Value.int .i64 (opOf f)) ∧ w'.cell? ⟨g, off + 4, none⟩ = some (Value.int .i64 (nOf f)) ∧ w'.cell? ⟨g, off + 5, none⟩ = some s2 ∧ Below w.heap.size w w') from (refShown_of vs nv na f hw.2.2 hq 6 (by decide) (by omega) W s2 (.slice a vs.length cap) (t2.below h.2.2.2.2.2.2.2.2.2 f) (Sl.below hn h.2.2.2.2.2.2.2.2.2)).mono (fun _ (w' : World) ⟨h1, h2⟩ => (⟨h1, cell_kept h2 h.1, cell_kept h2 h.2.1, S2.next h.2.2 h2⟩ : _ ∧ (w'.cell? ⟨w.heap.size, 0, none⟩ = some (Value.int .i64 8) ∧ w'.cell? ⟨w.heap.size + 1, 8, none⟩ = some (Value.string (ByteArray.mk #[42])) ∧ w'.cell? ⟨w.heap.size, 2, none⟩ = some (Value.slice (some ⟨g, off, none⟩) 2 kcap) ∧ w'.cell? ⟨g, off, none⟩ = some (Value.int .i64 (opOf e)) ∧ w'.cell? ⟨g, off + 1, none⟩ = some (Value.int .i64 (nOf e)) ∧ w'.cell? ⟨g, off + 2, none⟩ = some s1 ∧ w'.cell? ⟨g, off + 3, none⟩ = some (Value.int .i64 (opOf f)) ∧ w'.cell? ⟨g, off + 4, none⟩ = some (Value.int .i64 (nOf f)) ∧ w'.cell? ⟨g, off + 5, none⟩ = some s2 ∧ Below w.heap.size w w')))))
  have hsz1 : (shw vs e 5).length ≤ 2305843009213693002 := shw_len vs e 5 _ hl1
  have hsz2 : (shw vs f 6).length ≤ 2305843009213693002 := shw_len vs f 6 _ hl2
  obtain ⟨O1, hO1⟩ : ∃ O, opOf e = O := ⟨_, rfl⟩
  obtain ⟨X1, hX1⟩ : ∃ X, nOf e = X := ⟨_, rfl⟩
  obtain ⟨T1, hT1⟩ : ∃ T, shw vs e 5 = T := ⟨_, rfl⟩
  obtain ⟨O2, hO2⟩ : ∃ O, opOf f = O := ⟨_, rfl⟩
  obtain ⟨X2, hX2⟩ : ∃ X, nOf f = X := ⟨_, rfl⟩
  obtain ⟨T2, hT2⟩ : ∃ T, shw vs f 6 = T := ⟨_, rfl⟩
  rw [hO1, hX1, hO2, hX2] at HP1 HP2
  rw [hT1] at HP1 htx hsz1
  rw [hT2] at HP2 htx hsz2
  rw [hO1] at k0
  rw [hX1] at k1
  rw [hO2] at l0
  rw [hX2] at l1
  obtain ⟨U1, hU1⟩ : ∃ U, T1 ++ ([32] : Bs) = U := ⟨_, rfl⟩
  obtain ⟨U2, hU2⟩ : ∃ U, U1 ++ [42] = U := ⟨_, rfl⟩
  obtain ⟨U3, hU3⟩ : ∃ U, U2 ++ [32] = U := ⟨_, rfl⟩
  obtain ⟨U4, hU4⟩ : ∃ U, U3 ++ T2 = U := ⟨_, rfl⟩
  rw [hU1, hU2, hU3, hU4] at htx
  have z1 : U1.length = T1.length + 1 := by rw [← hU1]; simp
  have z2 : U2.length = U1.length + 1 := by rw [← hU2]; simp
  have z3 : U3.length = U2.length + 1 := by rw [← hU3]; simp
  have e1 : ∀ W, (Op.stringOp .add (str T1) (ByteArray.mk #[32])).run Tryz.prog W = .ok (.string (str U1)) W := fun W => by rw [run_string_add_sum W _ _ (by rw [str_size]; show _ + 1 ≤ _; omega), ← hU1, ← str_append]; rfl
  have e2 : ∀ W, (Op.stringOp .add (str U1) (ByteArray.mk #[42])).run Tryz.prog W = .ok (.string (str U2)) W := fun W => by rw [run_string_add_sum W _ _ (by rw [str_size]; show _ + 1 ≤ _; omega), ← hU2, ← str_append]; rfl
  have e3 : ∀ W, (Op.stringOp .add (str U2) (ByteArray.mk #[32])).run Tryz.prog W = .ok (.string (str U3)) W := fun W => by rw [run_string_add_sum W _ _ (by rw [str_size]; show _ + 1 ≤ _; omega), ← hU3, ← str_append]; rfl
  have e4 : ∀ W, (Op.stringOp .add (str U3) (str T2)).run Tryz.prog W = .ok (.string (str U4)) W := fun W => by rw [run_string_add_sum W _ _ (by rw [str_size, str_size]; omega), ← hU4, ← str_append]
  have hwr : IntKind.i64.wrap 6 = 6 := by decide
  have HTX := Lib.hid htx
  clear hU1 hU2 hU3 hU4 z1 z2 z3 hsz1 hsz2
  have K0 := Lib.hid k0
  have K1 := Lib.hid k1
  have K2 := Lib.hid k2
  have L0 := Lib.hid l0
  have L1 := Lib.hid l1
  have L2 := Lib.hid l2
  clear htx hn k0 k1 k2 t1 l0 l1 l2 t2 hO1 hX1 hT1 hO2 hX2 hT2 hl1 hl2 hp hq hw
  go_enter Tryz.func13, Tryz.ntmps13
  go_wp2_with fail
  refine (HRK.out _).mono ?_
  rintro _ w1 ⟨rfl, hb1⟩
  have csg := sign_cell hb1 (k := 8) (u := Value.string (ByteArray.mk #[42])) rfl
  obtain ⟨c0, c1, c2, hbw⟩ := box_cells (below_box _ _ _ _ hb1)
  have HB1 := Lib.hid hbw
  clear hb1 hbw
  go_upto_region 27 with fail
  have hS0 : (w1.drew.cell? ⟨w.heap.size, 0, none⟩ = some (Value.int .i64 8) ∧ w1.drew.cell? ⟨w.heap.size + 1, 8, none⟩ = some (Value.string (ByteArray.mk #[42])) ∧ w1.drew.cell? ⟨w.heap.size, 2, none⟩ = some (Value.slice (some ⟨g, off, none⟩) 2 kcap) ∧ w1.drew.cell? ⟨g, off, none⟩ = some (Value.int .i64 O1) ∧ w1.drew.cell? ⟨g, off + 1, none⟩ = some (Value.int .i64 X1) ∧ w1.drew.cell? ⟨g, off + 2, none⟩ = some s1 ∧ w1.drew.cell? ⟨g, off + 3, none⟩ = some (Value.int .i64 O2) ∧ w1.drew.cell? ⟨g, off + 4, none⟩ = some (Value.int .i64 X2) ∧ w1.drew.cell? ⟨g, off + 5, none⟩ = some s2 ∧ Below w.heap.size w w1.drew) := ⟨c0, csg, c2, cell_kept HB1.out.drew K0.out, cell_kept HB1.out.drew K1.out, cell_kept HB1.out.drew K2.out, cell_kept HB1.out.drew L0.out, cell_kept HB1.out.drew L1.out, cell_kept HB1.out.drew L2.out, HB1.out.drew⟩
  clear c0 c1 c2 csg
  go_region_held3 (fun W => (W.cell? ⟨w.heap.size, 0, none⟩ = some (Value.int .i64 8) ∧ W.cell? ⟨w.heap.size + 1, 8, none⟩ = some (Value.string (ByteArray.mk #[42])) ∧ W.cell? ⟨w.heap.size, 2, none⟩ = some (Value.slice (some ⟨g, off, none⟩) 2 kcap) ∧ W.cell? ⟨g, off, none⟩ = some (Value.int .i64 O1) ∧ W.cell? ⟨g, off + 1, none⟩ = some (Value.int .i64 X1) ∧ W.cell? ⟨g, off + 2, none⟩ = some s1 ∧ W.cell? ⟨g, off + 3, none⟩ = some (Value.int .i64 O2) ∧ W.cell? ⟨g, off + 4, none⟩ = some (Value.int .i64 X2) ∧ W.cell? ⟨g, off + 5, none⟩ = some s2 ∧ Below w.heap.size w W)) (first | exact hS0 | assumption) (first | (go_at_call 34; ((with_reducible refine (HP1.out _ ?_).mono ?_); (first | exact hS0 | assumption)); rintro _ w3 ⟨rfl, hS3⟩) | (go_at_call 34; ((with_reducible refine (HP2.out _ ?_).mono ?_); (first | exact hS0 | assumption)); rintro _ w4 ⟨rfl, hS4⟩))
  all_goals
    go_wp2_with fail
    go_ret
    exact ⟨ret_str (by rw [HTX.out]), by first | exact hS4.2.2.2.2.2.2.2.2.2 | exact hS3.2.2.2.2.2.2.2.2.2⟩
end Go.Proofs.YtbeidmkhpcnbbaaGreatDoor.I
