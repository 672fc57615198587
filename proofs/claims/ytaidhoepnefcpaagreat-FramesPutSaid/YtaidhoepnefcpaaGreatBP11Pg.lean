/-
  Layer 11, the program: whether two frames are the same, continued.
-/
import Derived.Test.YtaidhoepnefcpaaGreatBP11Pe
import Derived.Test.YtaidhoepnefcpaaGreatBP11Pf
namespace Go.Proofs.YtaidhoepnefcpaaGreat.C10
open Go Go.RowKit Go.Proofs B K P8
set_option linter.unusedVariables false
set_option maxRecDepth 100000
theorem fr_eqv2 (n0 : Int) (n1 : Int) (n2 : Int) (n3 : Int) (n4 : Int) (n5 : List (List UInt8)) (n6 : List Cm) (n7 : List En) (n8 : List It) (n9 : List Vd) (m0 : Int) (m1 : Int) (m2 : Int) (m3 : Int) (m4 : Int) (m5 : List (List UInt8)) (m6 : List Cm) (m7 : List En) (m8 : List It) (m9 : List Vd) : eqv (⟨n0, n1, n2, n3, n4, n5, n6, n7, n8, n9⟩ : Fr) ⟨m0, m1, m2, m3, m4, m5, m6, m7, m8, m9⟩ = (eqv n0 m0 && (eqv n1 m1 && (eqv n2 m2 && (eqv n3 m3 && (eqv n4 m4 && (eqv n5 m5 && (eqv n9 m9 && (eqv n6 m6 && (eqv n7 m7 && (eqv n8 m8)))))))))) := by
 rw [Bool.eq_iff_iff];simp only [Bool.and_eq_true, yf, Fr.mk.injEq];constructor
 ·rintro ⟨h0, h1, h2, h3, h4, h5, h6, h7, h8, h9⟩; exact ⟨h0, h1, h2, h3, h4, h5, h9, h6, h7, h8⟩
 ·rintro ⟨h0, h1, h2, h3, h4, h5, h9, h6, h7, h8⟩; exact ⟨h0, h1, h2, h3, h4, h5, h6, h7, h8, h9⟩
set_option maxHeartbeats 40000000 in
theorem psameF (c d : Fr) (vn5 vn6 vn7 vn8 vn9 vm5 vm6 vm7 vm8 vm9 : Value) (w : World) (h : FrIs w c vn5 vn6 vn7 vn8 vn9) (h' : FrIs w d vm5 vm6 vm7 vm8 vm9) (hc : FrSh c) :
 Calls Tryz.prog 15 #[.agg (frCells c vn5 vn6 vn7 vn8 vn9).toArray, .agg (frCells d vm5 vm6 vm7 vm8 vm9).toArray] w fun z w' => z = .returned (.bool (eqv c d)) /\ Below w.heap.size w w' := by
 obtain ⟨n0, n1, n2, n3, n4, n5, n6, n7, n8, n9⟩ := c;obtain ⟨m0, m1, m2, m3, m4, m5, m6, m7, m8, m9⟩ := d;obtain ⟨hf, hcm, hen, hit, hvd⟩ := h;obtain ⟨hf', hcm', hen', hit', hvd'⟩ := h';obtain ⟨hz1, hz2, hz3, hz4, hz5, hz6, hz7, hz8⟩ := hc;dsimp only at hf hcm hen hit hvd hf' hcm' hen' hit' hvd' hz1 hz2 hz3 hz4 hz5 hz6 hz7 hz8;by_cases hne : n0 = m0 /\ n1 = m1 /\ n2 = m2 /\ n3 = m3 /\ n4 = m4
 rotate_left 1
 ·rw [zI (fun e => hne (by injection e with e0 e1 e2 e3 e4; exact ⟨e0, e1, e2, e3, e4⟩))]
  exact psame_ints n0 n1 n2 n3 n4 m0 m1 m2 m3 m4 vn5 vn6 vn7 vn8 vn9 vm5 vm6 vm7 vm8 vm9 w hne
 obtain ⟨rfl, rfl, rfl, rfl, rfl⟩ := hne;rw [fr_eqv2];simp only [zN, Bool.true_and];show Calls Tryz.prog 15 #[.agg #[.int .i64 n0, .int .i64 n1, .int .i64 n2, .int .i64 n3, .int .i64 n4, vn5, vn6, vn7, vn8, vn9], .agg #[.int .i64 n0, .int .i64 n1, .int .i64 n2, .int .i64 n3, .int .i64 n4, vm5, vm6, vm7, vm8, vm9]] w _
 have H5 := Lib.hid (fun (W : World) (hb : Below w.heap.size w W) => ptexts_any n5 m5 vn5 vm5 W (hf.below hb) (hf'.below hb) hz1);have H9 := Lib.hid (fun (W : World) (hb : Below w.heap.size w W) => pverdicts_any n9 m9 vn9 vm9 W (hvd.below hb) (hvd'.below hb) (Nat.le_trans hz8 (by decide)));have H6 := Lib.hid (fun (W : World) (A : Nat) (hb : Below w.heap.size w W) hA => byCmd_any n6 m6 vn6 vm6 A W (hcm.below hb) (hcm'.below hb) hz2 hz3 hA);have H7 := Lib.hid (fun (W : World) (A : Nat) (hb : Below w.heap.size w W) hA => byEntry_any n7 m7 vn7 vm7 A W (hen.below hb) (hen'.below hb) hz4 hz5 hA);have H8 := Lib.hid (fun (W : World) (A : Nat) (hb : Below w.heap.size w W) hA => byItem_any n8 m8 vn8 vm8 A W (hit.below hb) (hit'.below hb) hz6 hz7 hA);have HL6 := Lib.hid (fun W => listsCmd_any W);have HL7 := Lib.hid (fun W => listsEntry_any W);have HL8 := Lib.hid (fun W => listsItem_any W);obtain ⟨b5, hb5⟩ : ∃ b, eqv n5 m5 = b := ⟨_, rfl⟩;rw [hb5] at H5 ⊢;clear hb5;obtain ⟨b6, hb6⟩ : ∃ b, eqv n6 m6 = b := ⟨_, rfl⟩;rw [hb6] at H6 ⊢;clear hb6;obtain ⟨b7, hb7⟩ : ∃ b, eqv n7 m7 = b := ⟨_, rfl⟩;rw [hb7] at H7 ⊢;clear hb7;obtain ⟨b8, hb8⟩ : ∃ b, eqv n8 m8 = b := ⟨_, rfl⟩;rw [hb8] at H8 ⊢;clear hb8;obtain ⟨b9, hb9⟩ : ∃ b, eqv n9 m9 = b := ⟨_, rfl⟩;rw [hb9] at H9 ⊢;clear hb9;clear hf hcm hen hit hvd hf' hcm' hen' hit' hvd' hz1 hz2 hz3 hz4 hz5 hz6 hz7 hz8;obtain ⟨W0, hW0⟩ : ∃ W0, w.alloc (.cells #[.int .i64 n0, .int .i64 n1, .int .i64 n2, .int .i64 n3, .int .i64 n4, vn5, vn6, vn7, vn8, vn9] 28) = W0 := ⟨_, rfl⟩;obtain ⟨g, hg⟩ : ∃ g, W0.heap.size = g := ⟨_, rfl⟩;obtain ⟨W1, hW1⟩ : ∃ W1, W0.alloc (.cells #[.int .i64 n0, .int .i64 n1, .int .i64 n2, .int .i64 n3, .int .i64 n4, vm5, vm6, vm7, vm8, vm9] 28) = W1 := ⟨_, rfl⟩;have hB0 : Below w.heap.size w W0 := by rw [<- hW0]; exact zf _ _
 have hB1 : Below W0.heap.size W0 W1 := by rw [<- hW1]; exact zf _ _
 have k0 : W1.cell? ⟨w.heap.size, 0, none⟩ = some (.int .i64 n0) := za hB1 (by rw [<- hW0]; exact ze w [_, _, _, _, _, _, _, _, _, _] _ 0 _ rfl);have k1 : W1.cell? ⟨w.heap.size, 1, none⟩ = some (.int .i64 n1) := za hB1 (by rw [<- hW0]; exact ze w [_, _, _, _, _, _, _, _, _, _] _ 1 _ rfl);have k2 : W1.cell? ⟨w.heap.size, 2, none⟩ = some (.int .i64 n2) := za hB1 (by rw [<- hW0]; exact ze w [_, _, _, _, _, _, _, _, _, _] _ 2 _ rfl);have k3 : W1.cell? ⟨w.heap.size, 3, none⟩ = some (.int .i64 n3) := za hB1 (by rw [<- hW0]; exact ze w [_, _, _, _, _, _, _, _, _, _] _ 3 _ rfl);have k4 : W1.cell? ⟨w.heap.size, 4, none⟩ = some (.int .i64 n4) := za hB1 (by rw [<- hW0]; exact ze w [_, _, _, _, _, _, _, _, _, _] _ 4 _ rfl);have k5 : W1.cell? ⟨w.heap.size, 5, none⟩ = some (vn5) := za hB1 (by rw [<- hW0]; exact ze w [_, _, _, _, _, _, _, _, _, _] _ 5 _ rfl);have k6 : W1.cell? ⟨w.heap.size, 6, none⟩ = some (vn6) := za hB1 (by rw [<- hW0]; exact ze w [_, _, _, _, _, _, _, _, _, _] _ 6 _ rfl);have k7 : W1.cell? ⟨w.heap.size, 7, none⟩ = some (vn7) := za hB1 (by rw [<- hW0]; exact ze w [_, _, _, _, _, _, _, _, _, _] _ 7 _ rfl);have k8 : W1.cell? ⟨w.heap.size, 8, none⟩ = some (vn8) := za hB1 (by rw [<- hW0]; exact ze w [_, _, _, _, _, _, _, _, _, _] _ 8 _ rfl);have k9 : W1.cell? ⟨w.heap.size, 9, none⟩ = some (vn9) := za hB1 (by rw [<- hW0]; exact ze w [_, _, _, _, _, _, _, _, _, _] _ 9 _ rfl);have j0 : W1.cell? ⟨g, 0, none⟩ = some (.int .i64 n0) := by rw [<- hW1, <- hg]; exact ze W0 [_, _, _, _, _, _, _, _, _, _] _ 0 _ rfl
 have j1 : W1.cell? ⟨g, 1, none⟩ = some (.int .i64 n1) := by rw [<- hW1, <- hg]; exact ze W0 [_, _, _, _, _, _, _, _, _, _] _ 1 _ rfl
 have j2 : W1.cell? ⟨g, 2, none⟩ = some (.int .i64 n2) := by rw [<- hW1, <- hg]; exact ze W0 [_, _, _, _, _, _, _, _, _, _] _ 2 _ rfl
 have j3 : W1.cell? ⟨g, 3, none⟩ = some (.int .i64 n3) := by rw [<- hW1, <- hg]; exact ze W0 [_, _, _, _, _, _, _, _, _, _] _ 3 _ rfl
 have j4 : W1.cell? ⟨g, 4, none⟩ = some (.int .i64 n4) := by rw [<- hW1, <- hg]; exact ze W0 [_, _, _, _, _, _, _, _, _, _] _ 4 _ rfl
 have j5 : W1.cell? ⟨g, 5, none⟩ = some (vm5) := by rw [<- hW1, <- hg]; exact ze W0 [_, _, _, _, _, _, _, _, _, _] _ 5 _ rfl
 have j6 : W1.cell? ⟨g, 6, none⟩ = some (vm6) := by rw [<- hW1, <- hg]; exact ze W0 [_, _, _, _, _, _, _, _, _, _] _ 6 _ rfl
 have j7 : W1.cell? ⟨g, 7, none⟩ = some (vm7) := by rw [<- hW1, <- hg]; exact ze W0 [_, _, _, _, _, _, _, _, _, _] _ 7 _ rfl
 have j8 : W1.cell? ⟨g, 8, none⟩ = some (vm8) := by rw [<- hW1, <- hg]; exact ze W0 [_, _, _, _, _, _, _, _, _, _] _ 8 _ rfl
 have j9 : W1.cell? ⟨g, 9, none⟩ = some (vm9) := by rw [<- hW1, <- hg]; exact ze W0 [_, _, _, _, _, _, _, _, _, _] _ 9 _ rfl
 have HB := Lib.hid (hB0.trans (hB1.mono hB0.size));clear hB0 hB1;have hS0 : (W1.drew.cell? ⟨w.heap.size, 0, none⟩ = some (Value.int .i64 n0) /\ W1.drew.cell? ⟨w.heap.size, 1, none⟩ = some (Value.int .i64 n1) /\ W1.drew.cell? ⟨w.heap.size, 2, none⟩ = some (Value.int .i64 n2) /\ W1.drew.cell? ⟨w.heap.size, 3, none⟩ = some (Value.int .i64 n3) /\ W1.drew.cell? ⟨w.heap.size, 4, none⟩ = some (Value.int .i64 n4) /\ W1.drew.cell? ⟨w.heap.size, 5, none⟩ = some (vn5) /\ W1.drew.cell? ⟨w.heap.size, 6, none⟩ = some (vn6) /\ W1.drew.cell? ⟨w.heap.size, 7, none⟩ = some (vn7) /\ W1.drew.cell? ⟨w.heap.size, 8, none⟩ = some (vn8) /\ W1.drew.cell? ⟨w.heap.size, 9, none⟩ = some (vn9) /\ W1.drew.cell? ⟨g, 0, none⟩ = some (Value.int .i64 n0) /\ W1.drew.cell? ⟨g, 1, none⟩ = some (Value.int .i64 n1) /\ W1.drew.cell? ⟨g, 2, none⟩ = some (Value.int .i64 n2) /\ W1.drew.cell? ⟨g, 3, none⟩ = some (Value.int .i64 n3) /\ W1.drew.cell? ⟨g, 4, none⟩ = some (Value.int .i64 n4) /\ W1.drew.cell? ⟨g, 5, none⟩ = some (vm5) /\ W1.drew.cell? ⟨g, 6, none⟩ = some (vm6) /\ W1.drew.cell? ⟨g, 7, none⟩ = some (vm7) /\ W1.drew.cell? ⟨g, 8, none⟩ = some (vm8) /\ W1.drew.cell? ⟨g, 9, none⟩ = some (vm9) /\ Below w.heap.size w W1.drew) := ⟨k0, k1, k2, k3, k4, k5, k6, k7, k8, k9, j0, j1, j2, j3, j4, j5, j6, j7, j8, j9, HB.out.drew⟩;clear k0 j0 k1 j1 k2 j2 k3 j3 k4 j4 k5 j5 k6 j6 k7 j7 k8 j8 k9 j9;go_enter Tryz.func15, Tryz.ntmps15;go_upto_region 1 with fail
 refine wp_region_held_drew (S := fun W => (W.cell? ⟨w.heap.size, 0, none⟩ = some (Value.int .i64 n0) /\ W.cell? ⟨w.heap.size, 1, none⟩ = some (Value.int .i64 n1) /\ W.cell? ⟨w.heap.size, 2, none⟩ = some (Value.int .i64 n2) /\ W.cell? ⟨w.heap.size, 3, none⟩ = some (Value.int .i64 n3) /\ W.cell? ⟨w.heap.size, 4, none⟩ = some (Value.int .i64 n4) /\ W.cell? ⟨w.heap.size, 5, none⟩ = some (vn5) /\ W.cell? ⟨w.heap.size, 6, none⟩ = some (vn6) /\ W.cell? ⟨w.heap.size, 7, none⟩ = some (vn7) /\ W.cell? ⟨w.heap.size, 8, none⟩ = some (vn8) /\ W.cell? ⟨w.heap.size, 9, none⟩ = some (vn9) /\ W.cell? ⟨g, 0, none⟩ = some (Value.int .i64 n0) /\ W.cell? ⟨g, 1, none⟩ = some (Value.int .i64 n1) /\ W.cell? ⟨g, 2, none⟩ = some (Value.int .i64 n2) /\ W.cell? ⟨g, 3, none⟩ = some (Value.int .i64 n3) /\ W.cell? ⟨g, 4, none⟩ = some (Value.int .i64 n4) /\ W.cell? ⟨g, 5, none⟩ = some (vm5) /\ W.cell? ⟨g, 6, none⟩ = some (vm6) /\ W.cell? ⟨g, 7, none⟩ = some (vm7) /\ W.cell? ⟨g, 8, none⟩ = some (vm8) /\ W.cell? ⟨g, 9, none⟩ = some (vm9) /\ Below w.heap.size w W)) (by kernel_rfl) hS0 (fun hHeld => ?_);simp only [List.append_eq, List.cons_append, List.nil_append];refine wpAnyH_take (i := 0) (v := ?_) rfl (by kernel_rfl) (by kernel_rfl) (by kernel_rfl) (fun _ _ _ h => h) (Or.inl ⟨by kernel_rfl, ?_⟩) (by assumption) ?_
 rotate_left
 focus (intro w hSw; (try dsimp only at hSw); go_simp; try with_reducible rfl)
 (try simp only [Act.put, List.getElem_toArray, List.getElem_cons_zero, List.setIfInBounds_toArray, List.set_cons_zero, List.set_cons_succ])
 refine wpAnyH_take (i := 1) (v := ?_) rfl (by kernel_rfl) (by kernel_rfl) (by kernel_rfl) (fun _ _ _ h => h) (Or.inl ⟨by kernel_rfl, ?_⟩) (by assumption) ?_
 rotate_left
 focus (intro w hSw; (try dsimp only at hSw); go_simp; try with_reducible rfl)
 (try simp only [Act.put, List.getElem_toArray, List.getElem_cons_succ, List.getElem_cons_zero, List.setIfInBounds_toArray, List.set_cons_zero, List.set_cons_succ])
 refine wpAnyH_take (i := 2) (v := ?_) rfl (by kernel_rfl) (by kernel_rfl) (by kernel_rfl) (fun _ _ _ h => h) (Or.inl ⟨by kernel_rfl, ?_⟩) (by assumption) ?_
 rotate_left
 focus (intro w hSw; (try dsimp only at hSw); go_simp; try with_reducible rfl)
 (try simp only [Act.put, List.getElem_toArray, List.getElem_cons_succ, List.getElem_cons_zero, List.setIfInBounds_toArray, List.set_cons_zero, List.set_cons_succ])
 refine wpAnyH_take (i := 3) (v := ?_) rfl (by kernel_rfl) (by kernel_rfl) (by kernel_rfl) (fun _ _ _ h => h) (Or.inl ⟨by kernel_rfl, ?_⟩) (by assumption) ?_
 rotate_left
 focus (intro w hSw; (try dsimp only at hSw); go_simp; try with_reducible rfl)
 (try simp only [Act.put, List.getElem_toArray, List.getElem_cons_succ, List.getElem_cons_zero, List.setIfInBounds_toArray, List.set_cons_zero, List.set_cons_succ])
 refine wpAnyH_take (i := 4) (v := ?_) rfl (by kernel_rfl) (by kernel_rfl) (by kernel_rfl) (fun _ _ _ h => h) (Or.inl ⟨by kernel_rfl, ?_⟩) (by assumption) ?_
 rotate_left
 focus (intro w hSw; (try dsimp only at hSw); go_simp; try with_reducible rfl)
 (try simp only [Act.put, List.getElem_toArray, List.getElem_cons_succ, List.getElem_cons_zero, List.setIfInBounds_toArray, List.set_cons_zero, List.set_cons_succ])
 refine wpAnyH_take (i := 5) (v := ?_) rfl (by kernel_rfl) (by kernel_rfl) (by kernel_rfl) (fun _ _ _ h => h) (Or.inl ⟨by kernel_rfl, ?_⟩) (by assumption) ?_
 rotate_left
 focus (intro w hSw; (try dsimp only at hSw); go_simp; try with_reducible rfl)
 (try simp only [Act.put, List.getElem_toArray, List.getElem_cons_succ, List.getElem_cons_zero, List.setIfInBounds_toArray, List.set_cons_zero, List.set_cons_succ])
 refine wpAnyH_take (i := 6) (v := ?_) rfl (by kernel_rfl) (by kernel_rfl) (by kernel_rfl) (fun _ _ _ h => h) (Or.inl ⟨by kernel_rfl, ?_⟩) (by assumption) ?_
 rotate_left
 focus (intro w hSw; (try dsimp only at hSw); go_simp; try with_reducible rfl)
 (try simp only [Act.put, List.getElem_toArray, List.getElem_cons_succ, List.getElem_cons_zero, List.setIfInBounds_toArray, List.set_cons_zero, List.set_cons_succ])
 refine wpAnyH_take (i := 7) (v := ?_) rfl (by kernel_rfl) (by kernel_rfl) (by kernel_rfl) (fun _ _ _ h => h) (Or.inl ⟨by kernel_rfl, ?_⟩) (by assumption) ?_
 rotate_left
 focus (intro w hSw; (try dsimp only at hSw); go_simp; try with_reducible rfl)
 (try simp only [Act.put, List.getElem_toArray, List.getElem_cons_succ, List.getElem_cons_zero, List.setIfInBounds_toArray, List.set_cons_zero, List.set_cons_succ])
 refine wpAnyH_take (i := 8) (v := ?_) rfl (by kernel_rfl) (by kernel_rfl) (by kernel_rfl) (fun _ _ _ h => h) (Or.inl ⟨by kernel_rfl, ?_⟩) (by assumption) ?_
 rotate_left
 focus (intro w hSw; (try dsimp only at hSw); go_simp; try with_reducible rfl)
 (try simp only [Act.put, List.getElem_toArray, List.getElem_cons_succ, List.getElem_cons_zero, List.setIfInBounds_toArray, List.set_cons_zero, List.set_cons_succ])
 refine wpAnyH_take (i := 9) (v := ?_) rfl (by kernel_rfl) (by kernel_rfl) (by kernel_rfl) (fun _ _ _ h => h) (Or.inl ⟨by kernel_rfl, ?_⟩) (by assumption) ?_
 rotate_left
 focus (intro w hSw; (try dsimp only at hSw); go_simp; try with_reducible rfl)
 (try simp only [Act.put, List.getElem_toArray, List.getElem_cons_succ, List.getElem_cons_zero, List.setIfInBounds_toArray, List.set_cons_zero, List.set_cons_succ])
 refine wpAnyH_take (i := 10) (v := ?_) rfl (by kernel_rfl) (by kernel_rfl) (by kernel_rfl) (fun _ _ _ h => h) (Or.inl ⟨by kernel_rfl, ?_⟩) (by assumption) ?_
 rotate_left
 focus (intro w hSw; (try dsimp only at hSw); go_simp; try with_reducible rfl)
 (try simp only [Act.put, List.getElem_toArray, List.getElem_cons_succ, List.getElem_cons_zero, List.setIfInBounds_toArray, List.set_cons_zero, List.set_cons_succ])
 refine wpAnyH_take (i := 11) (v := ?_) rfl (by kernel_rfl) (by kernel_rfl) (by kernel_rfl) (fun _ _ _ h => h) (Or.inl ⟨by kernel_rfl, ?_⟩) (by assumption) ?_
 rotate_left
 focus (intro w hSw; (try dsimp only at hSw); go_simp; try with_reducible rfl)
 (try simp only [Act.put, List.getElem_toArray, List.getElem_cons_succ, List.getElem_cons_zero, List.setIfInBounds_toArray, List.set_cons_zero, List.set_cons_succ])
 refine wpAnyH_take (i := 12) (v := ?_) rfl (by kernel_rfl) (by kernel_rfl) (by kernel_rfl) (fun _ _ _ h => h) (Or.inl ⟨by kernel_rfl, ?_⟩) (by assumption) ?_
 rotate_left
 focus (intro w hSw; (try dsimp only at hSw); go_simp; try with_reducible rfl)
 (try simp only [Act.put, List.getElem_toArray, List.getElem_cons_succ, List.getElem_cons_zero, List.setIfInBounds_toArray, List.set_cons_zero, List.set_cons_succ])
 refine wpAnyH_take (i := 13) (v := ?_) rfl (by kernel_rfl) (by kernel_rfl) (by kernel_rfl) (fun _ _ _ h => h) (Or.inl ⟨by kernel_rfl, ?_⟩) (by assumption) ?_
 rotate_left
 focus (intro w hSw; (try dsimp only at hSw); go_simp; try with_reducible rfl)
 (try simp only [Act.put, List.getElem_toArray, List.getElem_cons_succ, List.getElem_cons_zero, List.setIfInBounds_toArray, List.set_cons_zero, List.set_cons_succ])
 refine wpAnyH_take (i := 14) (v := ?_) rfl (by kernel_rfl) (by kernel_rfl) (by kernel_rfl) (fun _ _ _ h => h) (Or.inl ⟨by kernel_rfl, ?_⟩) (by assumption) ?_
 rotate_left
 focus (intro w hSw; (try dsimp only at hSw); go_simp; try with_reducible rfl)
 (try simp only [Act.put, List.getElem_toArray, List.getElem_cons_succ, List.getElem_cons_zero, List.setIfInBounds_toArray, List.set_cons_zero, List.set_cons_succ])
 refine wpAnyH_take (i := 15) (v := ?_) rfl (by kernel_rfl) (by kernel_rfl) (by kernel_rfl) (fun _ _ _ h => h) (Or.inl ⟨by kernel_rfl, ?_⟩) (by assumption) ?_
 rotate_left
 focus (intro w hSw; (try dsimp only at hSw); go_simp; try with_reducible rfl)
 (try simp only [Act.put, List.getElem_toArray, List.getElem_cons_succ, List.getElem_cons_zero, List.setIfInBounds_toArray, List.set_cons_zero, List.set_cons_succ])
 refine wpAnyH_take (i := 16) (v := ?_) rfl (by kernel_rfl) (by kernel_rfl) (by kernel_rfl) (fun _ _ _ h => h) (Or.inl ⟨by kernel_rfl, ?_⟩) (by assumption) ?_
 rotate_left
 focus (intro w hSw; (try dsimp only at hSw); go_simp; try with_reducible rfl)
 (try simp only [Act.put, List.getElem_toArray, List.getElem_cons_succ, List.getElem_cons_zero, List.setIfInBounds_toArray, List.set_cons_zero, List.set_cons_succ])
 refine wpAnyH_take (i := 17) (v := ?_) rfl (by kernel_rfl) (by kernel_rfl) (by kernel_rfl) (fun _ _ _ h => h) (Or.inl ⟨by kernel_rfl, ?_⟩) (by assumption) ?_
 rotate_left
 focus (intro w hSw; (try dsimp only at hSw); go_simp; try with_reducible rfl)
 (try simp only [Act.put, List.getElem_toArray, List.getElem_cons_succ, List.getElem_cons_zero, List.setIfInBounds_toArray, List.set_cons_zero, List.set_cons_succ])
 refine wpAnyH_take (i := 18) (v := ?_) rfl (by kernel_rfl) (by kernel_rfl) (by kernel_rfl) (fun _ _ _ h => h) (Or.inl ⟨by kernel_rfl, ?_⟩) (by assumption) ?_
 rotate_left
 focus (intro w hSw; (try dsimp only at hSw); go_simp; try with_reducible rfl)
 (try simp only [Act.put, List.getElem_toArray, List.getElem_cons_succ, List.getElem_cons_zero, List.setIfInBounds_toArray, List.set_cons_zero, List.set_cons_succ])
 refine wpAnyH_take (i := 19) (v := ?_) rfl (by kernel_rfl) (by kernel_rfl) (by kernel_rfl) (fun _ _ _ h => h) (Or.inl ⟨by kernel_rfl, ?_⟩) (by assumption) ?_
 rotate_left
 focus (intro w hSw; (try dsimp only at hSw); go_simp; try with_reducible rfl)
 (try simp only [Act.put, List.getElem_toArray, List.getElem_cons_succ, List.getElem_cons_zero, List.setIfInBounds_toArray, List.set_cons_zero, List.set_cons_succ])
 refine wpAnyH_take (i := 20) (v := ?_) rfl (by kernel_rfl) (by kernel_rfl) (by kernel_rfl) (fun _ _ _ h => h) (Or.inl ⟨by kernel_rfl, ?_⟩) (by assumption) ?_
 rotate_left
 focus (intro w hSw; (try dsimp only at hSw); go_simp; try with_reducible rfl)
 (try simp only [Act.put, List.getElem_toArray, List.getElem_cons_succ, List.getElem_cons_zero, List.setIfInBounds_toArray, List.set_cons_zero, List.set_cons_succ])
 refine wpAnyH_take (i := 21) (v := ?_) rfl (by kernel_rfl) (by kernel_rfl) (by kernel_rfl) (fun _ _ _ h => h) (Or.inl ⟨by kernel_rfl, ?_⟩) (by assumption) ?_
 rotate_left
 focus (intro w hSw; (try dsimp only at hSw); go_simp; try with_reducible rfl)
 (try simp only [Act.put, List.getElem_toArray, List.getElem_cons_succ, List.getElem_cons_zero, List.setIfInBounds_toArray, List.set_cons_zero, List.set_cons_succ])
 refine wpAnyH_take (i := 22) (v := ?_) rfl (by kernel_rfl) (by kernel_rfl) (by kernel_rfl) (fun _ _ _ h => h) (Or.inl ⟨by kernel_rfl, ?_⟩) (by assumption) ?_
 rotate_left
 focus (intro w hSw; (try dsimp only at hSw); go_simp; try with_reducible rfl)
 (try simp only [Act.put, List.getElem_toArray, List.getElem_cons_succ, List.getElem_cons_zero, List.setIfInBounds_toArray, List.set_cons_zero, List.set_cons_succ])
 refine wpAnyH_take (i := 23) (v := ?_) rfl (by kernel_rfl) (by kernel_rfl) (by kernel_rfl) (fun _ _ _ h => h) (Or.inl ⟨by kernel_rfl, ?_⟩) (by assumption) ?_
 rotate_left
 focus (intro w hSw; (try dsimp only at hSw); go_simp; try with_reducible rfl)
 (try simp only [Act.put, List.getElem_toArray, List.getElem_cons_succ, List.getElem_cons_zero, List.setIfInBounds_toArray, List.set_cons_zero, List.set_cons_succ])
 refine wpAnyH_take (i := 24) (v := ?_) rfl (by kernel_rfl) (by kernel_rfl) (by kernel_rfl) (fun _ _ _ h => h) (Or.inl ⟨by kernel_rfl, ?_⟩) (by assumption) ?_
 rotate_left
 focus (intro w hSw; (try dsimp only at hSw); go_simp; try with_reducible rfl)
 (try simp only [Act.put, List.getElem_toArray, List.getElem_cons_succ, List.getElem_cons_zero, List.setIfInBounds_toArray, List.set_cons_zero, List.set_cons_succ])
 refine wpAnyH_take (i := 25) (v := ?_) rfl (by kernel_rfl) (by kernel_rfl) (by kernel_rfl) (fun _ _ _ h => h) (Or.inl ⟨by kernel_rfl, ?_⟩) (by assumption) ?_
 rotate_left
 focus (intro w hSw; (try dsimp only at hSw); go_simp; try with_reducible rfl)
 (try simp only [Act.put, List.getElem_toArray, List.getElem_cons_succ, List.getElem_cons_zero, List.setIfInBounds_toArray, List.set_cons_zero, List.set_cons_succ])
 refine wpAnyH_take (i := 26) (v := ?_) rfl (by kernel_rfl) (by kernel_rfl) (by kernel_rfl) (fun _ _ _ h => h) (Or.inl ⟨by kernel_rfl, ?_⟩) (by assumption) ?_
 rotate_left
 focus (intro w hSw; (try dsimp only at hSw); go_simp; try with_reducible rfl)
 (try simp only [Act.put, List.getElem_toArray, List.getElem_cons_succ, List.getElem_cons_zero, List.setIfInBounds_toArray, List.set_cons_zero, List.set_cons_succ])
 refine wpAnyH_take (i := 27) (v := ?_) rfl (by kernel_rfl) (by kernel_rfl) (by kernel_rfl) (fun _ _ _ h => h) (Or.inl ⟨by kernel_rfl, ?_⟩) (by assumption) ?_
 rotate_left
 focus (intro w hSw; (try dsimp only at hSw); go_simp; try with_reducible rfl)
 (try simp only [Act.put, List.getElem_toArray, List.getElem_cons_succ, List.getElem_cons_zero, List.setIfInBounds_toArray, List.set_cons_zero, List.set_cons_succ])
 refine wpAnyH_take (i := 28) (v := ?_) rfl (by kernel_rfl) (by kernel_rfl) (by kernel_rfl) (fun _ _ _ h => h) (Or.inl ⟨by kernel_rfl, ?_⟩) (by assumption) ?_
 rotate_left
 focus (intro w hSw; (try dsimp only at hSw); go_simp; try with_reducible rfl)
 (try simp only [Act.put, List.getElem_toArray, List.getElem_cons_succ, List.getElem_cons_zero, List.setIfInBounds_toArray, List.set_cons_zero, List.set_cons_succ])
 refine wpAnyH_take (i := 29) (v := ?_) rfl (by kernel_rfl) (by kernel_rfl) (by kernel_rfl) (fun _ _ _ h => h) (Or.inl ⟨by kernel_rfl, ?_⟩) (by assumption) ?_
 rotate_left
 focus (intro w hSw; (try dsimp only at hSw); go_simp; try with_reducible rfl)
 (try simp only [Act.put, List.getElem_toArray, List.getElem_cons_succ, List.getElem_cons_zero, List.setIfInBounds_toArray, List.set_cons_zero, List.set_cons_succ])
 refine wpAnyH_take (i := 30) (v := ?_) rfl (by kernel_rfl) (by kernel_rfl) (by kernel_rfl) (fun _ _ _ h => h) (Or.inl ⟨by kernel_rfl, ?_⟩) (by assumption) ?_
 rotate_left
 focus (intro w hSw; (try dsimp only at hSw); go_simp; try with_reducible rfl)
 (try simp only [Act.put, List.getElem_toArray, List.getElem_cons_succ, List.getElem_cons_zero, List.setIfInBounds_toArray, List.set_cons_zero, List.set_cons_succ])
 refine wpAnyH_take (i := 31) (v := ?_) rfl (by kernel_rfl) (by kernel_rfl) (by kernel_rfl) (fun _ _ _ h => h) (Or.inl ⟨by kernel_rfl, ?_⟩) (by assumption) ?_
 rotate_left
 focus (intro w hSw; (try dsimp only at hSw); go_simp; try with_reducible rfl)
 (try simp only [Act.put, List.getElem_toArray, List.getElem_cons_succ, List.getElem_cons_zero, List.setIfInBounds_toArray, List.set_cons_zero, List.set_cons_succ])
 refine wpAnyH_take (i := 32) (v := ?_) rfl (by kernel_rfl) (by kernel_rfl) (by kernel_rfl) (fun _ _ _ h => h) (Or.inl ⟨by kernel_rfl, ?_⟩) (by assumption) ?_
 rotate_left
 focus (intro w hSw; (try dsimp only at hSw); go_simp; try with_reducible rfl)
 (try simp only [Act.put, List.getElem_toArray, List.getElem_cons_succ, List.getElem_cons_zero, List.setIfInBounds_toArray, List.set_cons_zero, List.set_cons_succ])
 refine wpAnyH_take (i := 33) (v := ?_) rfl (by kernel_rfl) (by kernel_rfl) (by kernel_rfl) (fun _ _ _ h => h) (Or.inl ⟨by kernel_rfl, ?_⟩) (by assumption) ?_
 rotate_left
 focus (intro w hSw; (try dsimp only at hSw); go_simp; try with_reducible rfl)
 (try simp only [Act.put, List.getElem_toArray, List.getElem_cons_succ, List.getElem_cons_zero, List.setIfInBounds_toArray, List.set_cons_zero, List.set_cons_succ])
 refine wpAnyH_take (i := 34) (v := ?_) rfl (by kernel_rfl) (by kernel_rfl) (by kernel_rfl) (fun _ _ _ h => h) (Or.inl ⟨by kernel_rfl, ?_⟩) (by assumption) ?_
 rotate_left
 focus (intro w hSw; (try dsimp only at hSw); go_simp; try with_reducible rfl)
 (try simp only [Act.put, List.getElem_toArray, List.getElem_cons_succ, List.getElem_cons_zero, List.setIfInBounds_toArray, List.set_cons_zero, List.set_cons_succ])
 refine wpAnyH_take (i := 35) (v := ?_) rfl (by kernel_rfl) (by kernel_rfl) (by kernel_rfl) (fun _ _ _ h => h) (Or.inl ⟨by kernel_rfl, ?_⟩) (by assumption) ?_
 rotate_left
 focus (intro w hSw; (try dsimp only at hSw); go_simp; try with_reducible rfl)
 (try simp only [Act.put, List.getElem_toArray, List.getElem_cons_succ, List.getElem_cons_zero, List.setIfInBounds_toArray, List.set_cons_zero, List.set_cons_succ])
 refine wpAnyH_take (i := 36) (v := ?_) rfl (by kernel_rfl) (by kernel_rfl) (by kernel_rfl) (fun _ _ _ h => h) (Or.inl ⟨by kernel_rfl, ?_⟩) (by assumption) ?_
 rotate_left
 focus (intro w hSw; (try dsimp only at hSw); go_simp; try with_reducible rfl)
 (try simp only [Act.put, List.getElem_toArray, List.getElem_cons_succ, List.getElem_cons_zero, List.setIfInBounds_toArray, List.set_cons_zero, List.set_cons_succ])
 refine wpAnyH_take (i := 37) (v := ?_) rfl (by kernel_rfl) (by kernel_rfl) (by kernel_rfl) (fun _ _ _ h => h) (Or.inl ⟨by kernel_rfl, ?_⟩) (by assumption) ?_
 rotate_left
 focus (intro w hSw; (try dsimp only at hSw); go_simp; try with_reducible rfl)
 (try simp only [Act.put, List.getElem_toArray, List.getElem_cons_succ, List.getElem_cons_zero, List.setIfInBounds_toArray, List.set_cons_zero, List.set_cons_succ])
 refine wpAnyH_ready (rs := [38]) (by kernel_rfl) (by simp) ?_;refine AllReadyH.cons rfl (fun K hK => ?_) ?_
 rotate_left
 exact AllReadyH.nil
 (try simp only [List.getElem_toArray, List.getElem_cons_succ, List.getElem_cons_zero])
 go_simp
 (with_reducible refine (H5.out _ hS0.2.2.2.2.2.2.2.2.2.2.2.2.2.2.2.2.2.2.2.2).mono ?_)
 rintro _ w2 ⟨rfl, hb⟩;have hS2 : (w2.cell? ⟨w.heap.size, 0, none⟩ = some (Value.int .i64 n0) /\ w2.cell? ⟨w.heap.size, 1, none⟩ = some (Value.int .i64 n1) /\ w2.cell? ⟨w.heap.size, 2, none⟩ = some (Value.int .i64 n2) /\ w2.cell? ⟨w.heap.size, 3, none⟩ = some (Value.int .i64 n3) /\ w2.cell? ⟨w.heap.size, 4, none⟩ = some (Value.int .i64 n4) /\ w2.cell? ⟨w.heap.size, 5, none⟩ = some (vn5) /\ w2.cell? ⟨w.heap.size, 6, none⟩ = some (vn6) /\ w2.cell? ⟨w.heap.size, 7, none⟩ = some (vn7) /\ w2.cell? ⟨w.heap.size, 8, none⟩ = some (vn8) /\ w2.cell? ⟨w.heap.size, 9, none⟩ = some (vn9) /\ w2.cell? ⟨g, 0, none⟩ = some (Value.int .i64 n0) /\ w2.cell? ⟨g, 1, none⟩ = some (Value.int .i64 n1) /\ w2.cell? ⟨g, 2, none⟩ = some (Value.int .i64 n2) /\ w2.cell? ⟨g, 3, none⟩ = some (Value.int .i64 n3) /\ w2.cell? ⟨g, 4, none⟩ = some (Value.int .i64 n4) /\ w2.cell? ⟨g, 5, none⟩ = some (vm5) /\ w2.cell? ⟨g, 6, none⟩ = some (vm6) /\ w2.cell? ⟨g, 7, none⟩ = some (vm7) /\ w2.cell? ⟨g, 8, none⟩ = some (vm8) /\ w2.cell? ⟨g, 9, none⟩ = some (vm9) /\ Below w.heap.size w w2) := by
  have hSx := hS0;exact ⟨za hb hSx.1, za hb hSx.2.1, za hb hSx.2.2.1, za hb hSx.2.2.2.1, za hb hSx.2.2.2.2.1, za hb hSx.2.2.2.2.2.1, za hb hSx.2.2.2.2.2.2.1, za hb hSx.2.2.2.2.2.2.2.1, za hb hSx.2.2.2.2.2.2.2.2.1, za hb hSx.2.2.2.2.2.2.2.2.2.1, za hb hSx.2.2.2.2.2.2.2.2.2.2.1, za hb hSx.2.2.2.2.2.2.2.2.2.2.2.1, za hb hSx.2.2.2.2.2.2.2.2.2.2.2.2.1, za hb hSx.2.2.2.2.2.2.2.2.2.2.2.2.2.1, za hb hSx.2.2.2.2.2.2.2.2.2.2.2.2.2.2.1, za hb hSx.2.2.2.2.2.2.2.2.2.2.2.2.2.2.2.1, za hb hSx.2.2.2.2.2.2.2.2.2.2.2.2.2.2.2.2.1, za hb hSx.2.2.2.2.2.2.2.2.2.2.2.2.2.2.2.2.2.1, za hb hSx.2.2.2.2.2.2.2.2.2.2.2.2.2.2.2.2.2.2.1, za hb hSx.2.2.2.2.2.2.2.2.2.2.2.2.2.2.2.2.2.2.2.1, hSx.2.2.2.2.2.2.2.2.2.2.2.2.2.2.2.2.2.2.2.2.trans (hb.mono hSx.2.2.2.2.2.2.2.2.2.2.2.2.2.2.2.2.2.2.2.2.size)⟩
 clear hb;go_simp
 refine hK.out _ _ ?_ (fun hHeld => ?_);assumption
 clear hK K
 (try simp only [Act.put, List.getElem_toArray, List.getElem_cons_succ, List.getElem_cons_zero, List.setIfInBounds_toArray, List.set_cons_zero, List.set_cons_succ])
 cases b5 with
 | false =>
  refine wpAnyH_take (i := 39) (v := ?_) rfl (by kernel_rfl) (by kernel_rfl) (by kernel_rfl) (fun _ _ _ h => h) (Or.inl ⟨by kernel_rfl, ?_⟩) (by assumption) ?_
  rotate_left
  focus (intro w hSw; (try dsimp only at hSw); go_simp; try with_reducible rfl)
  (try simp only [Act.put, List.getElem_toArray, List.getElem_cons_succ, List.getElem_cons_zero, List.setIfInBounds_toArray, List.set_cons_zero, List.set_cons_succ])
  refine wpAnyH_take (i := 40) (v := ?_) rfl (by kernel_rfl) (by kernel_rfl) (by kernel_rfl) (fun _ _ _ h => h) (Or.inl ⟨by kernel_rfl, ?_⟩) (by assumption) ?_
  rotate_left
  focus (intro w hSw; (try dsimp only at hSw); go_simp; try with_reducible rfl)
  (try simp only [Act.put, List.getElem_toArray, List.getElem_cons_succ, List.getElem_cons_zero, List.setIfInBounds_toArray, List.set_cons_zero, List.set_cons_succ])
  refine wpAnyH_take (i := 41) (v := undef) rfl (by kernel_rfl) (by kernel_rfl) (by kernel_rfl) (fun _ _ _ h => h) (Or.inr ⟨by rfl, rfl⟩) (by assumption) ?_
  (try simp only [Act.put, List.getElem_toArray, List.getElem_cons_succ, List.getElem_cons_zero, List.setIfInBounds_toArray, List.set_cons_zero, List.set_cons_succ])
  refine wpAnyH_take (i := 42) (v := undef) rfl (by kernel_rfl) (by kernel_rfl) (by kernel_rfl) (fun _ _ _ h => h) (Or.inr ⟨by rfl, rfl⟩) (by assumption) ?_
  (try simp only [Act.put, List.getElem_toArray, List.getElem_cons_succ, List.getElem_cons_zero, List.setIfInBounds_toArray, List.set_cons_zero, List.set_cons_succ])
  refine wpAnyH_take (i := 43) (v := undef) rfl (by kernel_rfl) (by kernel_rfl) (by kernel_rfl) (fun _ _ _ h => h) (Or.inr ⟨by rfl, rfl⟩) (by assumption) ?_
  (try simp only [Act.put, List.getElem_toArray, List.getElem_cons_succ, List.getElem_cons_zero, List.setIfInBounds_toArray, List.set_cons_zero, List.set_cons_succ])
  refine wpAnyH_take (i := 44) (v := undef) rfl (by kernel_rfl) (by kernel_rfl) (by kernel_rfl) (fun _ _ _ h => h) (Or.inr ⟨by rfl, rfl⟩) (by assumption) ?_
  (try simp only [Act.put, List.getElem_toArray, List.getElem_cons_succ, List.getElem_cons_zero, List.setIfInBounds_toArray, List.set_cons_zero, List.set_cons_succ])
  refine wpAnyH_take (i := 45) (v := undef) rfl (by kernel_rfl) (by kernel_rfl) (by kernel_rfl) (fun _ _ _ h => h) (Or.inr ⟨by rfl, rfl⟩) (by assumption) ?_
  (try simp only [Act.put, List.getElem_toArray, List.getElem_cons_succ, List.getElem_cons_zero, List.setIfInBounds_toArray, List.set_cons_zero, List.set_cons_succ])
  refine wpAnyH_take (i := 46) (v := ?_) rfl (by kernel_rfl) (by kernel_rfl) (by kernel_rfl) (fun _ _ _ h => h) (Or.inl ⟨by kernel_rfl, ?_⟩) (by assumption) ?_
  rotate_left
  focus (intro w hSw; (try dsimp only at hSw); go_simp; try with_reducible rfl)
  (try simp only [Act.put, List.getElem_toArray, List.getElem_cons_succ, List.getElem_cons_zero, List.setIfInBounds_toArray, List.set_cons_zero, List.set_cons_succ])
  refine wpAnyH_take (i := 47) (v := ?_) rfl (by kernel_rfl) (by kernel_rfl) (by kernel_rfl) (fun _ _ _ h => h) (Or.inl ⟨by kernel_rfl, ?_⟩) (by assumption) ?_
  rotate_left
  focus (intro w hSw; (try dsimp only at hSw); go_simp; try with_reducible rfl)
  (try simp only [Act.put, List.getElem_toArray, List.getElem_cons_succ, List.getElem_cons_zero, List.setIfInBounds_toArray, List.set_cons_zero, List.set_cons_succ])
  refine wpAnyH_take (i := 48) (v := undef) rfl (by kernel_rfl) (by kernel_rfl) (by kernel_rfl) (fun _ _ _ h => h) (Or.inr ⟨by rfl, rfl⟩) (by assumption) ?_
  (try simp only [Act.put, List.getElem_toArray, List.getElem_cons_succ, List.getElem_cons_zero, List.setIfInBounds_toArray, List.set_cons_zero, List.set_cons_succ])
  refine wpAnyH_take (i := 49) (v := undef) rfl (by kernel_rfl) (by kernel_rfl) (by kernel_rfl) (fun _ _ _ h => h) (Or.inr ⟨by rfl, rfl⟩) (by assumption) ?_
  (try simp only [Act.put, List.getElem_toArray, List.getElem_cons_succ, List.getElem_cons_zero, List.setIfInBounds_toArray, List.set_cons_zero, List.set_cons_succ])
  refine wpAnyH_take (i := 50) (v := undef) rfl (by kernel_rfl) (by kernel_rfl) (by kernel_rfl) (fun _ _ _ h => h) (Or.inr ⟨by rfl, rfl⟩) (by assumption) ?_
  (try simp only [Act.put, List.getElem_toArray, List.getElem_cons_succ, List.getElem_cons_zero, List.setIfInBounds_toArray, List.set_cons_zero, List.set_cons_succ])
  refine wpAnyH_take (i := 51) (v := undef) rfl (by kernel_rfl) (by kernel_rfl) (by kernel_rfl) (fun _ _ _ h => h) (Or.inr ⟨by rfl, rfl⟩) (by assumption) ?_
  (try simp only [Act.put, List.getElem_toArray, List.getElem_cons_succ, List.getElem_cons_zero, List.setIfInBounds_toArray, List.set_cons_zero, List.set_cons_succ])
  refine wpAnyH_take (i := 52) (v := undef) rfl (by kernel_rfl) (by kernel_rfl) (by kernel_rfl) (fun _ _ _ h => h) (Or.inr ⟨by rfl, rfl⟩) (by assumption) ?_
  (try simp only [Act.put, List.getElem_toArray, List.getElem_cons_succ, List.getElem_cons_zero, List.setIfInBounds_toArray, List.set_cons_zero, List.set_cons_succ])
  refine wpAnyH_take (i := 53) (v := undef) rfl (by kernel_rfl) (by kernel_rfl) (by kernel_rfl) (fun _ _ _ h => h) (Or.inr ⟨by rfl, rfl⟩) (by assumption) ?_
  (try simp only [Act.put, List.getElem_toArray, List.getElem_cons_succ, List.getElem_cons_zero, List.setIfInBounds_toArray, List.set_cons_zero, List.set_cons_succ])
  refine wpAnyH_take (i := 54) (v := ?_) rfl (by kernel_rfl) (by kernel_rfl) (by kernel_rfl) (fun _ _ _ h => h) (Or.inl ⟨by kernel_rfl, ?_⟩) (by assumption) ?_
  rotate_left
  focus (intro w hSw; (try dsimp only at hSw); go_simp; try with_reducible rfl)
  (try simp only [Act.put, List.getElem_toArray, List.getElem_cons_succ, List.getElem_cons_zero, List.setIfInBounds_toArray, List.set_cons_zero, List.set_cons_succ])
  refine wpAnyH_take (i := 55) (v := ?_) rfl (by kernel_rfl) (by kernel_rfl) (by kernel_rfl) (fun _ _ _ h => h) (Or.inl ⟨by kernel_rfl, ?_⟩) (by assumption) ?_
  rotate_left
  focus (intro w hSw; (try dsimp only at hSw); go_simp; try with_reducible rfl)
  (try simp only [Act.put, List.getElem_toArray, List.getElem_cons_succ, List.getElem_cons_zero, List.setIfInBounds_toArray, List.set_cons_zero, List.set_cons_succ])
  refine wpAnyH_take (i := 56) (v := undef) rfl (by kernel_rfl) (by kernel_rfl) (by kernel_rfl) (fun _ _ _ h => h) (Or.inr ⟨by rfl, rfl⟩) (by assumption) ?_
  (try simp only [Act.put, List.getElem_toArray, List.getElem_cons_succ, List.getElem_cons_zero, List.setIfInBounds_toArray, List.set_cons_zero, List.set_cons_succ])
  refine wpAnyH_take (i := 57) (v := undef) rfl (by kernel_rfl) (by kernel_rfl) (by kernel_rfl) (fun _ _ _ h => h) (Or.inr ⟨by rfl, rfl⟩) (by assumption) ?_
  (try simp only [Act.put, List.getElem_toArray, List.getElem_cons_succ, List.getElem_cons_zero, List.setIfInBounds_toArray, List.set_cons_zero, List.set_cons_succ])
  refine wpAnyH_take (i := 58) (v := undef) rfl (by kernel_rfl) (by kernel_rfl) (by kernel_rfl) (fun _ _ _ h => h) (Or.inr ⟨by rfl, rfl⟩) (by assumption) ?_
  (try simp only [Act.put, List.getElem_toArray, List.getElem_cons_succ, List.getElem_cons_zero, List.setIfInBounds_toArray, List.set_cons_zero, List.set_cons_succ])
  refine wpAnyH_take (i := 59) (v := undef) rfl (by kernel_rfl) (by kernel_rfl) (by kernel_rfl) (fun _ _ _ h => h) (Or.inr ⟨by rfl, rfl⟩) (by assumption) ?_
  (try simp only [Act.put, List.getElem_toArray, List.getElem_cons_succ, List.getElem_cons_zero, List.setIfInBounds_toArray, List.set_cons_zero, List.set_cons_succ])
  refine wpAnyH_take (i := 60) (v := undef) rfl (by kernel_rfl) (by kernel_rfl) (by kernel_rfl) (fun _ _ _ h => h) (Or.inr ⟨by rfl, rfl⟩) (by assumption) ?_
  (try simp only [Act.put, List.getElem_toArray, List.getElem_cons_succ, List.getElem_cons_zero, List.setIfInBounds_toArray, List.set_cons_zero, List.set_cons_succ])
  refine wpAnyH_take (i := 61) (v := undef) rfl (by kernel_rfl) (by kernel_rfl) (by kernel_rfl) (fun _ _ _ h => h) (Or.inr ⟨by rfl, rfl⟩) (by assumption) ?_
  (try simp only [Act.put, List.getElem_toArray, List.getElem_cons_succ, List.getElem_cons_zero, List.setIfInBounds_toArray, List.set_cons_zero, List.set_cons_succ])
  refine wpAnyH_take (i := 62) (v := ?_) rfl (by kernel_rfl) (by kernel_rfl) (by kernel_rfl) (fun _ _ _ h => h) (Or.inl ⟨by kernel_rfl, ?_⟩) (by assumption) ?_
  rotate_left
  focus (intro w hSw; (try dsimp only at hSw); go_simp; try with_reducible rfl)
  (try simp only [Act.put, List.getElem_toArray, List.getElem_cons_succ, List.getElem_cons_zero, List.setIfInBounds_toArray, List.set_cons_zero, List.set_cons_succ])
  refine wpAnyH_take (i := 63) (v := ?_) rfl (by kernel_rfl) (by kernel_rfl) (by kernel_rfl) (fun _ _ _ h => h) (Or.inl ⟨by kernel_rfl, ?_⟩) (by assumption) ?_
  rotate_left
  focus (intro w hSw; (try dsimp only at hSw); go_simp; try with_reducible rfl)
  (try simp only [Act.put, List.getElem_toArray, List.getElem_cons_succ, List.getElem_cons_zero, List.setIfInBounds_toArray, List.set_cons_zero, List.set_cons_succ])
  refine wpAnyH_take (i := 64) (v := undef) rfl (by kernel_rfl) (by kernel_rfl) (by kernel_rfl) (fun _ _ _ h => h) (Or.inr ⟨by rfl, rfl⟩) (by assumption) ?_
  (try simp only [Act.put, List.getElem_toArray, List.getElem_cons_succ, List.getElem_cons_zero, List.setIfInBounds_toArray, List.set_cons_zero, List.set_cons_succ])
  refine wpAnyH_take (i := 65) (v := undef) rfl (by kernel_rfl) (by kernel_rfl) (by kernel_rfl) (fun _ _ _ h => h) (Or.inr ⟨by rfl, rfl⟩) (by assumption) ?_
  (try simp only [Act.put, List.getElem_toArray, List.getElem_cons_succ, List.getElem_cons_zero, List.setIfInBounds_toArray, List.set_cons_zero, List.set_cons_succ])
  refine wpAnyH_take (i := 66) (v := undef) rfl (by kernel_rfl) (by kernel_rfl) (by kernel_rfl) (fun _ _ _ h => h) (Or.inr ⟨by rfl, rfl⟩) (by assumption) ?_
  (try simp only [Act.put, List.getElem_toArray, List.getElem_cons_succ, List.getElem_cons_zero, List.setIfInBounds_toArray, List.set_cons_zero, List.set_cons_succ])
  refine wpAnyH_take (i := 67) (v := undef) rfl (by kernel_rfl) (by kernel_rfl) (by kernel_rfl) (fun _ _ _ h => h) (Or.inr ⟨by rfl, rfl⟩) (by assumption) ?_
  (try simp only [Act.put, List.getElem_toArray, List.getElem_cons_succ, List.getElem_cons_zero, List.setIfInBounds_toArray, List.set_cons_zero, List.set_cons_succ])
  refine wpAnyH_take (i := 68) (v := undef) rfl (by kernel_rfl) (by kernel_rfl) (by kernel_rfl) (fun _ _ _ h => h) (Or.inr ⟨by rfl, rfl⟩) (by assumption) ?_
  (try simp only [Act.put, List.getElem_toArray, List.getElem_cons_succ, List.getElem_cons_zero, List.setIfInBounds_toArray, List.set_cons_zero, List.set_cons_succ])
  refine wpAnyH_take (i := 69) (v := undef) rfl (by kernel_rfl) (by kernel_rfl) (by kernel_rfl) (fun _ _ _ h => h) (Or.inr ⟨by rfl, rfl⟩) (by assumption) ?_
  (try simp only [Act.put, List.getElem_toArray, List.getElem_cons_succ, List.getElem_cons_zero, List.setIfInBounds_toArray, List.set_cons_zero, List.set_cons_succ])
  refine wpAnyH_take (i := 70) (v := ?_) rfl (by kernel_rfl) (by kernel_rfl) (by kernel_rfl) (fun _ _ _ h => h) (Or.inl ⟨by kernel_rfl, ?_⟩) (by assumption) ?_
  rotate_left
  focus (intro w hSw; (try dsimp only at hSw); go_simp; try with_reducible rfl)
  (try simp only [Act.put, List.getElem_toArray, List.getElem_cons_succ, List.getElem_cons_zero, List.setIfInBounds_toArray, List.set_cons_zero, List.set_cons_succ])
  refine wpAnyH_take (i := 71) (v := ?_) rfl (by kernel_rfl) (by kernel_rfl) (by kernel_rfl) (fun _ _ _ h => h) (Or.inl ⟨by kernel_rfl, ?_⟩) (by assumption) ?_
  rotate_left
  focus (intro w hSw; (try dsimp only at hSw); go_simp; try with_reducible rfl)
  (try simp only [Act.put, List.getElem_toArray, List.getElem_cons_succ, List.getElem_cons_zero, List.setIfInBounds_toArray, List.set_cons_zero, List.set_cons_succ])
  refine wpAnyH_done (by kernel_rfl) ?_ _;have HB4 := Lib.hid hS2.2.2.2.2.2.2.2.2.2.2.2.2.2.2.2.2.2.2.2.2;clear hHeld;go_wp2_with fail;go_ret;exact ⟨rfl, HB4.out⟩
 | true =>
 refine wpAnyH_take (i := 39) (v := ?_) rfl (by kernel_rfl) (by kernel_rfl) (by kernel_rfl) (fun _ _ _ h => h) (Or.inl ⟨by kernel_rfl, ?_⟩) (by assumption) ?_
 rotate_left
 focus (intro w hSw; (try dsimp only at hSw); go_simp; try with_reducible rfl)
 (try simp only [Act.put, List.getElem_toArray, List.getElem_cons_succ, List.getElem_cons_zero, List.setIfInBounds_toArray, List.set_cons_zero, List.set_cons_succ])
 refine wpAnyH_take (i := 40) (v := ?_) rfl (by kernel_rfl) (by kernel_rfl) (by kernel_rfl) (fun _ _ _ h => h) (Or.inl ⟨by kernel_rfl, ?_⟩) (by assumption) ?_
 rotate_left
 focus (intro w hSw; (try dsimp only at hSw); go_simp; try with_reducible rfl)
 (try simp only [Act.put, List.getElem_toArray, List.getElem_cons_succ, List.getElem_cons_zero, List.setIfInBounds_toArray, List.set_cons_zero, List.set_cons_succ])
 refine wpAnyH_take (i := 41) (v := ?_) rfl (by kernel_rfl) (by kernel_rfl) (by kernel_rfl) (fun _ _ _ h => h) (Or.inl ⟨by kernel_rfl, ?_⟩) (by assumption) ?_
 rotate_left
 focus (intro w hSw; (try dsimp only at hSw); go_simp; try with_reducible rfl)
 (try simp only [Act.put, List.getElem_toArray, List.getElem_cons_succ, List.getElem_cons_zero, List.setIfInBounds_toArray, List.set_cons_zero, List.set_cons_succ])
 refine wpAnyH_take (i := 42) (v := ?_) rfl (by kernel_rfl) (by kernel_rfl) (by kernel_rfl) (fun _ _ _ h => h) (Or.inl ⟨by kernel_rfl, ?_⟩) (by assumption) ?_
 rotate_left
 focus (intro w hSw; (try dsimp only at hSw); go_simp; try with_reducible rfl)
 (try simp only [Act.put, List.getElem_toArray, List.getElem_cons_succ, List.getElem_cons_zero, List.setIfInBounds_toArray, List.set_cons_zero, List.set_cons_succ])
 refine wpAnyH_take (i := 43) (v := ?_) rfl (by kernel_rfl) (by kernel_rfl) (by kernel_rfl) (fun _ _ _ h => h) (Or.inl ⟨by kernel_rfl, ?_⟩) (by assumption) ?_
 rotate_left
 focus (intro w hSw; (try dsimp only at hSw); go_simp; try with_reducible rfl)
 (try simp only [Act.put, List.getElem_toArray, List.getElem_cons_succ, List.getElem_cons_zero, List.setIfInBounds_toArray, List.set_cons_zero, List.set_cons_succ])
 refine wpAnyH_take (i := 44) (v := ?_) rfl (by kernel_rfl) (by kernel_rfl) (by kernel_rfl) (fun _ _ _ h => h) (Or.inl ⟨by kernel_rfl, ?_⟩) (by assumption) ?_
 rotate_left
 focus (intro w hSw; (try dsimp only at hSw); go_simp; try with_reducible rfl)
 (try simp only [Act.put, List.getElem_toArray, List.getElem_cons_succ, List.getElem_cons_zero, List.setIfInBounds_toArray, List.set_cons_zero, List.set_cons_succ])
 refine wpAnyH_ready (rs := [45]) (by kernel_rfl) (by simp) ?_;refine AllReadyH.cons rfl (fun K hK => ?_) ?_
 rotate_left
 exact AllReadyH.nil
 (try simp only [List.getElem_toArray, List.getElem_cons_succ, List.getElem_cons_zero])
 go_simp
 (with_reducible refine (H9.out _ hS2.2.2.2.2.2.2.2.2.2.2.2.2.2.2.2.2.2.2.2.2).mono ?_)
 rintro _ w3 ⟨rfl, hb⟩;have hS3 : (w3.cell? ⟨w.heap.size, 0, none⟩ = some (Value.int .i64 n0) /\ w3.cell? ⟨w.heap.size, 1, none⟩ = some (Value.int .i64 n1) /\ w3.cell? ⟨w.heap.size, 2, none⟩ = some (Value.int .i64 n2) /\ w3.cell? ⟨w.heap.size, 3, none⟩ = some (Value.int .i64 n3) /\ w3.cell? ⟨w.heap.size, 4, none⟩ = some (Value.int .i64 n4) /\ w3.cell? ⟨w.heap.size, 5, none⟩ = some (vn5) /\ w3.cell? ⟨w.heap.size, 6, none⟩ = some (vn6) /\ w3.cell? ⟨w.heap.size, 7, none⟩ = some (vn7) /\ w3.cell? ⟨w.heap.size, 8, none⟩ = some (vn8) /\ w3.cell? ⟨w.heap.size, 9, none⟩ = some (vn9) /\ w3.cell? ⟨g, 0, none⟩ = some (Value.int .i64 n0) /\ w3.cell? ⟨g, 1, none⟩ = some (Value.int .i64 n1) /\ w3.cell? ⟨g, 2, none⟩ = some (Value.int .i64 n2) /\ w3.cell? ⟨g, 3, none⟩ = some (Value.int .i64 n3) /\ w3.cell? ⟨g, 4, none⟩ = some (Value.int .i64 n4) /\ w3.cell? ⟨g, 5, none⟩ = some (vm5) /\ w3.cell? ⟨g, 6, none⟩ = some (vm6) /\ w3.cell? ⟨g, 7, none⟩ = some (vm7) /\ w3.cell? ⟨g, 8, none⟩ = some (vm8) /\ w3.cell? ⟨g, 9, none⟩ = some (vm9) /\ Below w.heap.size w w3) := by
  have hSx := hS2;exact ⟨za hb hSx.1, za hb hSx.2.1, za hb hSx.2.2.1, za hb hSx.2.2.2.1, za hb hSx.2.2.2.2.1, za hb hSx.2.2.2.2.2.1, za hb hSx.2.2.2.2.2.2.1, za hb hSx.2.2.2.2.2.2.2.1, za hb hSx.2.2.2.2.2.2.2.2.1, za hb hSx.2.2.2.2.2.2.2.2.2.1, za hb hSx.2.2.2.2.2.2.2.2.2.2.1, za hb hSx.2.2.2.2.2.2.2.2.2.2.2.1, za hb hSx.2.2.2.2.2.2.2.2.2.2.2.2.1, za hb hSx.2.2.2.2.2.2.2.2.2.2.2.2.2.1, za hb hSx.2.2.2.2.2.2.2.2.2.2.2.2.2.2.1, za hb hSx.2.2.2.2.2.2.2.2.2.2.2.2.2.2.2.1, za hb hSx.2.2.2.2.2.2.2.2.2.2.2.2.2.2.2.2.1, za hb hSx.2.2.2.2.2.2.2.2.2.2.2.2.2.2.2.2.2.1, za hb hSx.2.2.2.2.2.2.2.2.2.2.2.2.2.2.2.2.2.2.1, za hb hSx.2.2.2.2.2.2.2.2.2.2.2.2.2.2.2.2.2.2.2.1, hSx.2.2.2.2.2.2.2.2.2.2.2.2.2.2.2.2.2.2.2.2.trans (hb.mono hSx.2.2.2.2.2.2.2.2.2.2.2.2.2.2.2.2.2.2.2.2.size)⟩
 clear hb;go_simp
 refine hK.out _ _ ?_ (fun hHeld => ?_);assumption
 clear hK K
 (try simp only [Act.put, List.getElem_toArray, List.getElem_cons_succ, List.getElem_cons_zero, List.setIfInBounds_toArray, List.set_cons_zero, List.set_cons_succ])
 cases b9 with
 | false =>
  refine wpAnyH_take (i := 46) (v := ?_) rfl (by kernel_rfl) (by kernel_rfl) (by kernel_rfl) (fun _ _ _ h => h) (Or.inl ⟨by kernel_rfl, ?_⟩) (by assumption) ?_
  rotate_left
  focus (intro w hSw; (try dsimp only at hSw); go_simp; try with_reducible rfl)
  (try simp only [Act.put, List.getElem_toArray, List.getElem_cons_succ, List.getElem_cons_zero, List.setIfInBounds_toArray, List.set_cons_zero, List.set_cons_succ])
  refine wpAnyH_take (i := 47) (v := ?_) rfl (by kernel_rfl) (by kernel_rfl) (by kernel_rfl) (fun _ _ _ h => h) (Or.inl ⟨by kernel_rfl, ?_⟩) (by assumption) ?_
  rotate_left
  focus (intro w hSw; (try dsimp only at hSw); go_simp; try with_reducible rfl)
  (try simp only [Act.put, List.getElem_toArray, List.getElem_cons_succ, List.getElem_cons_zero, List.setIfInBounds_toArray, List.set_cons_zero, List.set_cons_succ])
  refine wpAnyH_take (i := 48) (v := undef) rfl (by kernel_rfl) (by kernel_rfl) (by kernel_rfl) (fun _ _ _ h => h) (Or.inr ⟨by rfl, rfl⟩) (by assumption) ?_
  (try simp only [Act.put, List.getElem_toArray, List.getElem_cons_succ, List.getElem_cons_zero, List.setIfInBounds_toArray, List.set_cons_zero, List.set_cons_succ])
  refine wpAnyH_take (i := 49) (v := undef) rfl (by kernel_rfl) (by kernel_rfl) (by kernel_rfl) (fun _ _ _ h => h) (Or.inr ⟨by rfl, rfl⟩) (by assumption) ?_
  (try simp only [Act.put, List.getElem_toArray, List.getElem_cons_succ, List.getElem_cons_zero, List.setIfInBounds_toArray, List.set_cons_zero, List.set_cons_succ])
  refine wpAnyH_take (i := 50) (v := undef) rfl (by kernel_rfl) (by kernel_rfl) (by kernel_rfl) (fun _ _ _ h => h) (Or.inr ⟨by rfl, rfl⟩) (by assumption) ?_
  (try simp only [Act.put, List.getElem_toArray, List.getElem_cons_succ, List.getElem_cons_zero, List.setIfInBounds_toArray, List.set_cons_zero, List.set_cons_succ])
  refine wpAnyH_take (i := 51) (v := undef) rfl (by kernel_rfl) (by kernel_rfl) (by kernel_rfl) (fun _ _ _ h => h) (Or.inr ⟨by rfl, rfl⟩) (by assumption) ?_
  (try simp only [Act.put, List.getElem_toArray, List.getElem_cons_succ, List.getElem_cons_zero, List.setIfInBounds_toArray, List.set_cons_zero, List.set_cons_succ])
  refine wpAnyH_take (i := 52) (v := undef) rfl (by kernel_rfl) (by kernel_rfl) (by kernel_rfl) (fun _ _ _ h => h) (Or.inr ⟨by rfl, rfl⟩) (by assumption) ?_
  (try simp only [Act.put, List.getElem_toArray, List.getElem_cons_succ, List.getElem_cons_zero, List.setIfInBounds_toArray, List.set_cons_zero, List.set_cons_succ])
  refine wpAnyH_take (i := 53) (v := undef) rfl (by kernel_rfl) (by kernel_rfl) (by kernel_rfl) (fun _ _ _ h => h) (Or.inr ⟨by rfl, rfl⟩) (by assumption) ?_
  (try simp only [Act.put, List.getElem_toArray, List.getElem_cons_succ, List.getElem_cons_zero, List.setIfInBounds_toArray, List.set_cons_zero, List.set_cons_succ])
  refine wpAnyH_take (i := 54) (v := ?_) rfl (by kernel_rfl) (by kernel_rfl) (by kernel_rfl) (fun _ _ _ h => h) (Or.inl ⟨by kernel_rfl, ?_⟩) (by assumption) ?_
  rotate_left
  focus (intro w hSw; (try dsimp only at hSw); go_simp; try with_reducible rfl)
  (try simp only [Act.put, List.getElem_toArray, List.getElem_cons_succ, List.getElem_cons_zero, List.setIfInBounds_toArray, List.set_cons_zero, List.set_cons_succ])
  refine wpAnyH_take (i := 55) (v := ?_) rfl (by kernel_rfl) (by kernel_rfl) (by kernel_rfl) (fun _ _ _ h => h) (Or.inl ⟨by kernel_rfl, ?_⟩) (by assumption) ?_
  rotate_left
  focus (intro w hSw; (try dsimp only at hSw); go_simp; try with_reducible rfl)
  (try simp only [Act.put, List.getElem_toArray, List.getElem_cons_succ, List.getElem_cons_zero, List.setIfInBounds_toArray, List.set_cons_zero, List.set_cons_succ])
  refine wpAnyH_take (i := 56) (v := undef) rfl (by kernel_rfl) (by kernel_rfl) (by kernel_rfl) (fun _ _ _ h => h) (Or.inr ⟨by rfl, rfl⟩) (by assumption) ?_
  (try simp only [Act.put, List.getElem_toArray, List.getElem_cons_succ, List.getElem_cons_zero, List.setIfInBounds_toArray, List.set_cons_zero, List.set_cons_succ])
  refine wpAnyH_take (i := 57) (v := undef) rfl (by kernel_rfl) (by kernel_rfl) (by kernel_rfl) (fun _ _ _ h => h) (Or.inr ⟨by rfl, rfl⟩) (by assumption) ?_
  (try simp only [Act.put, List.getElem_toArray, List.getElem_cons_succ, List.getElem_cons_zero, List.setIfInBounds_toArray, List.set_cons_zero, List.set_cons_succ])
  refine wpAnyH_take (i := 58) (v := undef) rfl (by kernel_rfl) (by kernel_rfl) (by kernel_rfl) (fun _ _ _ h => h) (Or.inr ⟨by rfl, rfl⟩) (by assumption) ?_
  (try simp only [Act.put, List.getElem_toArray, List.getElem_cons_succ, List.getElem_cons_zero, List.setIfInBounds_toArray, List.set_cons_zero, List.set_cons_succ])
  refine wpAnyH_take (i := 59) (v := undef) rfl (by kernel_rfl) (by kernel_rfl) (by kernel_rfl) (fun _ _ _ h => h) (Or.inr ⟨by rfl, rfl⟩) (by assumption) ?_
  (try simp only [Act.put, List.getElem_toArray, List.getElem_cons_succ, List.getElem_cons_zero, List.setIfInBounds_toArray, List.set_cons_zero, List.set_cons_succ])
  refine wpAnyH_take (i := 60) (v := undef) rfl (by kernel_rfl) (by kernel_rfl) (by kernel_rfl) (fun _ _ _ h => h) (Or.inr ⟨by rfl, rfl⟩) (by assumption) ?_
  (try simp only [Act.put, List.getElem_toArray, List.getElem_cons_succ, List.getElem_cons_zero, List.setIfInBounds_toArray, List.set_cons_zero, List.set_cons_succ])
  refine wpAnyH_take (i := 61) (v := undef) rfl (by kernel_rfl) (by kernel_rfl) (by kernel_rfl) (fun _ _ _ h => h) (Or.inr ⟨by rfl, rfl⟩) (by assumption) ?_
  (try simp only [Act.put, List.getElem_toArray, List.getElem_cons_succ, List.getElem_cons_zero, List.setIfInBounds_toArray, List.set_cons_zero, List.set_cons_succ])
  refine wpAnyH_take (i := 62) (v := ?_) rfl (by kernel_rfl) (by kernel_rfl) (by kernel_rfl) (fun _ _ _ h => h) (Or.inl ⟨by kernel_rfl, ?_⟩) (by assumption) ?_
  rotate_left
  focus (intro w hSw; (try dsimp only at hSw); go_simp; try with_reducible rfl)
  (try simp only [Act.put, List.getElem_toArray, List.getElem_cons_succ, List.getElem_cons_zero, List.setIfInBounds_toArray, List.set_cons_zero, List.set_cons_succ])
  refine wpAnyH_take (i := 63) (v := ?_) rfl (by kernel_rfl) (by kernel_rfl) (by kernel_rfl) (fun _ _ _ h => h) (Or.inl ⟨by kernel_rfl, ?_⟩) (by assumption) ?_
  rotate_left
  focus (intro w hSw; (try dsimp only at hSw); go_simp; try with_reducible rfl)
  (try simp only [Act.put, List.getElem_toArray, List.getElem_cons_succ, List.getElem_cons_zero, List.setIfInBounds_toArray, List.set_cons_zero, List.set_cons_succ])
  refine wpAnyH_take (i := 64) (v := undef) rfl (by kernel_rfl) (by kernel_rfl) (by kernel_rfl) (fun _ _ _ h => h) (Or.inr ⟨by rfl, rfl⟩) (by assumption) ?_
  (try simp only [Act.put, List.getElem_toArray, List.getElem_cons_succ, List.getElem_cons_zero, List.setIfInBounds_toArray, List.set_cons_zero, List.set_cons_succ])
  refine wpAnyH_take (i := 65) (v := undef) rfl (by kernel_rfl) (by kernel_rfl) (by kernel_rfl) (fun _ _ _ h => h) (Or.inr ⟨by rfl, rfl⟩) (by assumption) ?_
  (try simp only [Act.put, List.getElem_toArray, List.getElem_cons_succ, List.getElem_cons_zero, List.setIfInBounds_toArray, List.set_cons_zero, List.set_cons_succ])
  refine wpAnyH_take (i := 66) (v := undef) rfl (by kernel_rfl) (by kernel_rfl) (by kernel_rfl) (fun _ _ _ h => h) (Or.inr ⟨by rfl, rfl⟩) (by assumption) ?_
  (try simp only [Act.put, List.getElem_toArray, List.getElem_cons_succ, List.getElem_cons_zero, List.setIfInBounds_toArray, List.set_cons_zero, List.set_cons_succ])
  refine wpAnyH_take (i := 67) (v := undef) rfl (by kernel_rfl) (by kernel_rfl) (by kernel_rfl) (fun _ _ _ h => h) (Or.inr ⟨by rfl, rfl⟩) (by assumption) ?_
  (try simp only [Act.put, List.getElem_toArray, List.getElem_cons_succ, List.getElem_cons_zero, List.setIfInBounds_toArray, List.set_cons_zero, List.set_cons_succ])
  refine wpAnyH_take (i := 68) (v := undef) rfl (by kernel_rfl) (by kernel_rfl) (by kernel_rfl) (fun _ _ _ h => h) (Or.inr ⟨by rfl, rfl⟩) (by assumption) ?_
  (try simp only [Act.put, List.getElem_toArray, List.getElem_cons_succ, List.getElem_cons_zero, List.setIfInBounds_toArray, List.set_cons_zero, List.set_cons_succ])
  refine wpAnyH_take (i := 69) (v := undef) rfl (by kernel_rfl) (by kernel_rfl) (by kernel_rfl) (fun _ _ _ h => h) (Or.inr ⟨by rfl, rfl⟩) (by assumption) ?_
  (try simp only [Act.put, List.getElem_toArray, List.getElem_cons_succ, List.getElem_cons_zero, List.setIfInBounds_toArray, List.set_cons_zero, List.set_cons_succ])
  refine wpAnyH_take (i := 70) (v := ?_) rfl (by kernel_rfl) (by kernel_rfl) (by kernel_rfl) (fun _ _ _ h => h) (Or.inl ⟨by kernel_rfl, ?_⟩) (by assumption) ?_
  rotate_left
  focus (intro w hSw; (try dsimp only at hSw); go_simp; try with_reducible rfl)
  (try simp only [Act.put, List.getElem_toArray, List.getElem_cons_succ, List.getElem_cons_zero, List.setIfInBounds_toArray, List.set_cons_zero, List.set_cons_succ])
  refine wpAnyH_take (i := 71) (v := ?_) rfl (by kernel_rfl) (by kernel_rfl) (by kernel_rfl) (fun _ _ _ h => h) (Or.inl ⟨by kernel_rfl, ?_⟩) (by assumption) ?_
  rotate_left
  focus (intro w hSw; (try dsimp only at hSw); go_simp; try with_reducible rfl)
  (try simp only [Act.put, List.getElem_toArray, List.getElem_cons_succ, List.getElem_cons_zero, List.setIfInBounds_toArray, List.set_cons_zero, List.set_cons_succ])
  refine wpAnyH_done (by kernel_rfl) ?_ _;have HB4 := Lib.hid hS3.2.2.2.2.2.2.2.2.2.2.2.2.2.2.2.2.2.2.2.2;clear hHeld;go_wp2_with fail;go_ret;exact ⟨rfl, HB4.out⟩
 | true =>
 refine wpAnyH_take (i := 46) (v := ?_) rfl (by kernel_rfl) (by kernel_rfl) (by kernel_rfl) (fun _ _ _ h => h) (Or.inl ⟨by kernel_rfl, ?_⟩) (by assumption) ?_
 rotate_left
 focus (intro w hSw; (try dsimp only at hSw); go_simp; try with_reducible rfl)
 (try simp only [Act.put, List.getElem_toArray, List.getElem_cons_succ, List.getElem_cons_zero, List.setIfInBounds_toArray, List.set_cons_zero, List.set_cons_succ])
 refine wpAnyH_take (i := 47) (v := ?_) rfl (by kernel_rfl) (by kernel_rfl) (by kernel_rfl) (fun _ _ _ h => h) (Or.inl ⟨by kernel_rfl, ?_⟩) (by assumption) ?_
 rotate_left
 focus (intro w hSw; (try dsimp only at hSw); go_simp; try with_reducible rfl)
 (try simp only [Act.put, List.getElem_toArray, List.getElem_cons_succ, List.getElem_cons_zero, List.setIfInBounds_toArray, List.set_cons_zero, List.set_cons_succ])
 refine wpAnyH_take (i := 49) (v := ?_) rfl (by kernel_rfl) (by kernel_rfl) (by kernel_rfl) (fun _ _ _ h => h) (Or.inl ⟨by kernel_rfl, ?_⟩) (by assumption) ?_
 rotate_left
 focus (intro w hSw; (try dsimp only at hSw); go_simp; try with_reducible rfl)
 (try simp only [Act.put, List.getElem_toArray, List.getElem_cons_succ, List.getElem_cons_zero, List.setIfInBounds_toArray, List.set_cons_zero, List.set_cons_succ])
 refine wpAnyH_take (i := 50) (v := ?_) rfl (by kernel_rfl) (by kernel_rfl) (by kernel_rfl) (fun _ _ _ h => h) (Or.inl ⟨by kernel_rfl, ?_⟩) (by assumption) ?_
 rotate_left
 focus (intro w hSw; (try dsimp only at hSw); go_simp; try with_reducible rfl)
 (try simp only [Act.put, List.getElem_toArray, List.getElem_cons_succ, List.getElem_cons_zero, List.setIfInBounds_toArray, List.set_cons_zero, List.set_cons_succ])
 refine wpAnyH_take (i := 51) (v := ?_) rfl (by kernel_rfl) (by kernel_rfl) (by kernel_rfl) (fun _ _ _ h => h) (Or.inl ⟨by kernel_rfl, ?_⟩) (by assumption) ?_
 rotate_left
 focus (intro w hSw; (try dsimp only at hSw); go_simp; try with_reducible rfl)
 (try simp only [Act.put, List.getElem_toArray, List.getElem_cons_succ, List.getElem_cons_zero, List.setIfInBounds_toArray, List.set_cons_zero, List.set_cons_succ])
 refine wpAnyH_take (i := 52) (v := ?_) rfl (by kernel_rfl) (by kernel_rfl) (by kernel_rfl) (fun _ _ _ h => h) (Or.inl ⟨by kernel_rfl, ?_⟩) (by assumption) ?_
 rotate_left
 focus (intro w hSw; (try dsimp only at hSw); go_simp; try with_reducible rfl)
 (try simp only [Act.put, List.getElem_toArray, List.getElem_cons_succ, List.getElem_cons_zero, List.setIfInBounds_toArray, List.set_cons_zero, List.set_cons_succ])
 refine wpAnyH_ready (rs := [48]) (by kernel_rfl) (by simp) ?_;refine AllReadyH.cons rfl (fun K hK => ?_) ?_
 rotate_left
 exact AllReadyH.nil
 (try simp only [List.getElem_toArray, List.getElem_cons_succ, List.getElem_cons_zero])
 go_simp
 (with_reducible refine (HL6.out _).mono ?_)
 rintro _ w4 ⟨A6, rfl, hA, hb⟩;have hS4 : (w4.cell? ⟨w.heap.size, 0, none⟩ = some (Value.int .i64 n0) /\ w4.cell? ⟨w.heap.size, 1, none⟩ = some (Value.int .i64 n1) /\ w4.cell? ⟨w.heap.size, 2, none⟩ = some (Value.int .i64 n2) /\ w4.cell? ⟨w.heap.size, 3, none⟩ = some (Value.int .i64 n3) /\ w4.cell? ⟨w.heap.size, 4, none⟩ = some (Value.int .i64 n4) /\ w4.cell? ⟨w.heap.size, 5, none⟩ = some (vn5) /\ w4.cell? ⟨w.heap.size, 6, none⟩ = some (vn6) /\ w4.cell? ⟨w.heap.size, 7, none⟩ = some (vn7) /\ w4.cell? ⟨w.heap.size, 8, none⟩ = some (vn8) /\ w4.cell? ⟨w.heap.size, 9, none⟩ = some (vn9) /\ w4.cell? ⟨g, 0, none⟩ = some (Value.int .i64 n0) /\ w4.cell? ⟨g, 1, none⟩ = some (Value.int .i64 n1) /\ w4.cell? ⟨g, 2, none⟩ = some (Value.int .i64 n2) /\ w4.cell? ⟨g, 3, none⟩ = some (Value.int .i64 n3) /\ w4.cell? ⟨g, 4, none⟩ = some (Value.int .i64 n4) /\ w4.cell? ⟨g, 5, none⟩ = some (vm5) /\ w4.cell? ⟨g, 6, none⟩ = some (vm6) /\ w4.cell? ⟨g, 7, none⟩ = some (vm7) /\ w4.cell? ⟨g, 8, none⟩ = some (vm8) /\ w4.cell? ⟨g, 9, none⟩ = some (vm9) /\ Below w.heap.size w w4) := by
  have hSx := hS3;exact ⟨za hb hSx.1, za hb hSx.2.1, za hb hSx.2.2.1, za hb hSx.2.2.2.1, za hb hSx.2.2.2.2.1, za hb hSx.2.2.2.2.2.1, za hb hSx.2.2.2.2.2.2.1, za hb hSx.2.2.2.2.2.2.2.1, za hb hSx.2.2.2.2.2.2.2.2.1, za hb hSx.2.2.2.2.2.2.2.2.2.1, za hb hSx.2.2.2.2.2.2.2.2.2.2.1, za hb hSx.2.2.2.2.2.2.2.2.2.2.2.1, za hb hSx.2.2.2.2.2.2.2.2.2.2.2.2.1, za hb hSx.2.2.2.2.2.2.2.2.2.2.2.2.2.1, za hb hSx.2.2.2.2.2.2.2.2.2.2.2.2.2.2.1, za hb hSx.2.2.2.2.2.2.2.2.2.2.2.2.2.2.2.1, za hb hSx.2.2.2.2.2.2.2.2.2.2.2.2.2.2.2.2.1, za hb hSx.2.2.2.2.2.2.2.2.2.2.2.2.2.2.2.2.2.1, za hb hSx.2.2.2.2.2.2.2.2.2.2.2.2.2.2.2.2.2.2.1, za hb hSx.2.2.2.2.2.2.2.2.2.2.2.2.2.2.2.2.2.2.2.1, hSx.2.2.2.2.2.2.2.2.2.2.2.2.2.2.2.2.2.2.2.2.trans (hb.mono hSx.2.2.2.2.2.2.2.2.2.2.2.2.2.2.2.2.2.2.2.2.size)⟩
 have HA6 := Lib.hid hA;clear hA;clear hb;go_simp
 refine hK.out _ _ ?_ (fun hHeld => ?_);assumption
 clear hK K
 (try simp only [Act.put, List.getElem_toArray, List.getElem_cons_succ, List.getElem_cons_zero, List.setIfInBounds_toArray, List.set_cons_zero, List.set_cons_succ])
 refine wpAnyH_ready (rs := [53]) (by kernel_rfl) (by simp) ?_;refine AllReadyH.cons rfl (fun K hK => ?_) ?_
 rotate_left
 exact AllReadyH.nil
 (try simp only [List.getElem_toArray, List.getElem_cons_succ, List.getElem_cons_zero])
 go_simp
 (with_reducible refine (H6.out _ A6 hS4.2.2.2.2.2.2.2.2.2.2.2.2.2.2.2.2.2.2.2.2 HA6.out).mono ?_)
 rintro _ w5 ⟨rfl, hb⟩;have hS5 : (w5.cell? ⟨w.heap.size, 0, none⟩ = some (Value.int .i64 n0) /\ w5.cell? ⟨w.heap.size, 1, none⟩ = some (Value.int .i64 n1) /\ w5.cell? ⟨w.heap.size, 2, none⟩ = some (Value.int .i64 n2) /\ w5.cell? ⟨w.heap.size, 3, none⟩ = some (Value.int .i64 n3) /\ w5.cell? ⟨w.heap.size, 4, none⟩ = some (Value.int .i64 n4) /\ w5.cell? ⟨w.heap.size, 5, none⟩ = some (vn5) /\ w5.cell? ⟨w.heap.size, 6, none⟩ = some (vn6) /\ w5.cell? ⟨w.heap.size, 7, none⟩ = some (vn7) /\ w5.cell? ⟨w.heap.size, 8, none⟩ = some (vn8) /\ w5.cell? ⟨w.heap.size, 9, none⟩ = some (vn9) /\ w5.cell? ⟨g, 0, none⟩ = some (Value.int .i64 n0) /\ w5.cell? ⟨g, 1, none⟩ = some (Value.int .i64 n1) /\ w5.cell? ⟨g, 2, none⟩ = some (Value.int .i64 n2) /\ w5.cell? ⟨g, 3, none⟩ = some (Value.int .i64 n3) /\ w5.cell? ⟨g, 4, none⟩ = some (Value.int .i64 n4) /\ w5.cell? ⟨g, 5, none⟩ = some (vm5) /\ w5.cell? ⟨g, 6, none⟩ = some (vm6) /\ w5.cell? ⟨g, 7, none⟩ = some (vm7) /\ w5.cell? ⟨g, 8, none⟩ = some (vm8) /\ w5.cell? ⟨g, 9, none⟩ = some (vm9) /\ Below w.heap.size w w5) := by
  have hSx := hS4;exact ⟨za hb hSx.1, za hb hSx.2.1, za hb hSx.2.2.1, za hb hSx.2.2.2.1, za hb hSx.2.2.2.2.1, za hb hSx.2.2.2.2.2.1, za hb hSx.2.2.2.2.2.2.1, za hb hSx.2.2.2.2.2.2.2.1, za hb hSx.2.2.2.2.2.2.2.2.1, za hb hSx.2.2.2.2.2.2.2.2.2.1, za hb hSx.2.2.2.2.2.2.2.2.2.2.1, za hb hSx.2.2.2.2.2.2.2.2.2.2.2.1, za hb hSx.2.2.2.2.2.2.2.2.2.2.2.2.1, za hb hSx.2.2.2.2.2.2.2.2.2.2.2.2.2.1, za hb hSx.2.2.2.2.2.2.2.2.2.2.2.2.2.2.1, za hb hSx.2.2.2.2.2.2.2.2.2.2.2.2.2.2.2.1, za hb hSx.2.2.2.2.2.2.2.2.2.2.2.2.2.2.2.2.1, za hb hSx.2.2.2.2.2.2.2.2.2.2.2.2.2.2.2.2.2.1, za hb hSx.2.2.2.2.2.2.2.2.2.2.2.2.2.2.2.2.2.2.1, za hb hSx.2.2.2.2.2.2.2.2.2.2.2.2.2.2.2.2.2.2.2.1, hSx.2.2.2.2.2.2.2.2.2.2.2.2.2.2.2.2.2.2.2.2.trans (hb.mono hSx.2.2.2.2.2.2.2.2.2.2.2.2.2.2.2.2.2.2.2.2.size)⟩
 clear hb;go_simp
 refine hK.out _ _ ?_ (fun hHeld => ?_);assumption
 clear hK K
 (try simp only [Act.put, List.getElem_toArray, List.getElem_cons_succ, List.getElem_cons_zero, List.setIfInBounds_toArray, List.set_cons_zero, List.set_cons_succ])
 cases b6 with
 | false =>
  refine wpAnyH_take (i := 54) (v := ?_) rfl (by kernel_rfl) (by kernel_rfl) (by kernel_rfl) (fun _ _ _ h => h) (Or.inl ⟨by kernel_rfl, ?_⟩) (by assumption) ?_
  rotate_left
  focus (intro w hSw; (try dsimp only at hSw); go_simp; try with_reducible rfl)
  (try simp only [Act.put, List.getElem_toArray, List.getElem_cons_succ, List.getElem_cons_zero, List.setIfInBounds_toArray, List.set_cons_zero, List.set_cons_succ])
  refine wpAnyH_take (i := 55) (v := ?_) rfl (by kernel_rfl) (by kernel_rfl) (by kernel_rfl) (fun _ _ _ h => h) (Or.inl ⟨by kernel_rfl, ?_⟩) (by assumption) ?_
  rotate_left
  focus (intro w hSw; (try dsimp only at hSw); go_simp; try with_reducible rfl)
  (try simp only [Act.put, List.getElem_toArray, List.getElem_cons_succ, List.getElem_cons_zero, List.setIfInBounds_toArray, List.set_cons_zero, List.set_cons_succ])
  refine wpAnyH_take (i := 56) (v := undef) rfl (by kernel_rfl) (by kernel_rfl) (by kernel_rfl) (fun _ _ _ h => h) (Or.inr ⟨by rfl, rfl⟩) (by assumption) ?_
  (try simp only [Act.put, List.getElem_toArray, List.getElem_cons_succ, List.getElem_cons_zero, List.setIfInBounds_toArray, List.set_cons_zero, List.set_cons_succ])
  refine wpAnyH_take (i := 57) (v := undef) rfl (by kernel_rfl) (by kernel_rfl) (by kernel_rfl) (fun _ _ _ h => h) (Or.inr ⟨by rfl, rfl⟩) (by assumption) ?_
  (try simp only [Act.put, List.getElem_toArray, List.getElem_cons_succ, List.getElem_cons_zero, List.setIfInBounds_toArray, List.set_cons_zero, List.set_cons_succ])
  refine wpAnyH_take (i := 58) (v := undef) rfl (by kernel_rfl) (by kernel_rfl) (by kernel_rfl) (fun _ _ _ h => h) (Or.inr ⟨by rfl, rfl⟩) (by assumption) ?_
  (try simp only [Act.put, List.getElem_toArray, List.getElem_cons_succ, List.getElem_cons_zero, List.setIfInBounds_toArray, List.set_cons_zero, List.set_cons_succ])
  refine wpAnyH_take (i := 59) (v := undef) rfl (by kernel_rfl) (by kernel_rfl) (by kernel_rfl) (fun _ _ _ h => h) (Or.inr ⟨by rfl, rfl⟩) (by assumption) ?_
  (try simp only [Act.put, List.getElem_toArray, List.getElem_cons_succ, List.getElem_cons_zero, List.setIfInBounds_toArray, List.set_cons_zero, List.set_cons_succ])
  refine wpAnyH_take (i := 60) (v := undef) rfl (by kernel_rfl) (by kernel_rfl) (by kernel_rfl) (fun _ _ _ h => h) (Or.inr ⟨by rfl, rfl⟩) (by assumption) ?_
  (try simp only [Act.put, List.getElem_toArray, List.getElem_cons_succ, List.getElem_cons_zero, List.setIfInBounds_toArray, List.set_cons_zero, List.set_cons_succ])
  refine wpAnyH_take (i := 61) (v := undef) rfl (by kernel_rfl) (by kernel_rfl) (by kernel_rfl) (fun _ _ _ h => h) (Or.inr ⟨by rfl, rfl⟩) (by assumption) ?_
  (try simp only [Act.put, List.getElem_toArray, List.getElem_cons_succ, List.getElem_cons_zero, List.setIfInBounds_toArray, List.set_cons_zero, List.set_cons_succ])
  refine wpAnyH_take (i := 62) (v := ?_) rfl (by kernel_rfl) (by kernel_rfl) (by kernel_rfl) (fun _ _ _ h => h) (Or.inl ⟨by kernel_rfl, ?_⟩) (by assumption) ?_
  rotate_left
  focus (intro w hSw; (try dsimp only at hSw); go_simp; try with_reducible rfl)
  (try simp only [Act.put, List.getElem_toArray, List.getElem_cons_succ, List.getElem_cons_zero, List.setIfInBounds_toArray, List.set_cons_zero, List.set_cons_succ])
  refine wpAnyH_take (i := 63) (v := ?_) rfl (by kernel_rfl) (by kernel_rfl) (by kernel_rfl) (fun _ _ _ h => h) (Or.inl ⟨by kernel_rfl, ?_⟩) (by assumption) ?_
  rotate_left
  focus (intro w hSw; (try dsimp only at hSw); go_simp; try with_reducible rfl)
  (try simp only [Act.put, List.getElem_toArray, List.getElem_cons_succ, List.getElem_cons_zero, List.setIfInBounds_toArray, List.set_cons_zero, List.set_cons_succ])
  refine wpAnyH_take (i := 64) (v := undef) rfl (by kernel_rfl) (by kernel_rfl) (by kernel_rfl) (fun _ _ _ h => h) (Or.inr ⟨by rfl, rfl⟩) (by assumption) ?_
  (try simp only [Act.put, List.getElem_toArray, List.getElem_cons_succ, List.getElem_cons_zero, List.setIfInBounds_toArray, List.set_cons_zero, List.set_cons_succ])
  refine wpAnyH_take (i := 65) (v := undef) rfl (by kernel_rfl) (by kernel_rfl) (by kernel_rfl) (fun _ _ _ h => h) (Or.inr ⟨by rfl, rfl⟩) (by assumption) ?_
  (try simp only [Act.put, List.getElem_toArray, List.getElem_cons_succ, List.getElem_cons_zero, List.setIfInBounds_toArray, List.set_cons_zero, List.set_cons_succ])
  refine wpAnyH_take (i := 66) (v := undef) rfl (by kernel_rfl) (by kernel_rfl) (by kernel_rfl) (fun _ _ _ h => h) (Or.inr ⟨by rfl, rfl⟩) (by assumption) ?_
  (try simp only [Act.put, List.getElem_toArray, List.getElem_cons_succ, List.getElem_cons_zero, List.setIfInBounds_toArray, List.set_cons_zero, List.set_cons_succ])
  refine wpAnyH_take (i := 67) (v := undef) rfl (by kernel_rfl) (by kernel_rfl) (by kernel_rfl) (fun _ _ _ h => h) (Or.inr ⟨by rfl, rfl⟩) (by assumption) ?_
  (try simp only [Act.put, List.getElem_toArray, List.getElem_cons_succ, List.getElem_cons_zero, List.setIfInBounds_toArray, List.set_cons_zero, List.set_cons_succ])
  refine wpAnyH_take (i := 68) (v := undef) rfl (by kernel_rfl) (by kernel_rfl) (by kernel_rfl) (fun _ _ _ h => h) (Or.inr ⟨by rfl, rfl⟩) (by assumption) ?_
  (try simp only [Act.put, List.getElem_toArray, List.getElem_cons_succ, List.getElem_cons_zero, List.setIfInBounds_toArray, List.set_cons_zero, List.set_cons_succ])
  refine wpAnyH_take (i := 69) (v := undef) rfl (by kernel_rfl) (by kernel_rfl) (by kernel_rfl) (fun _ _ _ h => h) (Or.inr ⟨by rfl, rfl⟩) (by assumption) ?_
  (try simp only [Act.put, List.getElem_toArray, List.getElem_cons_succ, List.getElem_cons_zero, List.setIfInBounds_toArray, List.set_cons_zero, List.set_cons_succ])
  refine wpAnyH_take (i := 70) (v := ?_) rfl (by kernel_rfl) (by kernel_rfl) (by kernel_rfl) (fun _ _ _ h => h) (Or.inl ⟨by kernel_rfl, ?_⟩) (by assumption) ?_
  rotate_left
  focus (intro w hSw; (try dsimp only at hSw); go_simp; try with_reducible rfl)
  (try simp only [Act.put, List.getElem_toArray, List.getElem_cons_succ, List.getElem_cons_zero, List.setIfInBounds_toArray, List.set_cons_zero, List.set_cons_succ])
  refine wpAnyH_take (i := 71) (v := ?_) rfl (by kernel_rfl) (by kernel_rfl) (by kernel_rfl) (fun _ _ _ h => h) (Or.inl ⟨by kernel_rfl, ?_⟩) (by assumption) ?_
  rotate_left
  focus (intro w hSw; (try dsimp only at hSw); go_simp; try with_reducible rfl)
  (try simp only [Act.put, List.getElem_toArray, List.getElem_cons_succ, List.getElem_cons_zero, List.setIfInBounds_toArray, List.set_cons_zero, List.set_cons_succ])
  refine wpAnyH_done (by kernel_rfl) ?_ _;have HB4 := Lib.hid hS5.2.2.2.2.2.2.2.2.2.2.2.2.2.2.2.2.2.2.2.2;clear hHeld;go_wp2_with fail;go_ret;exact ⟨rfl, HB4.out⟩
 | true =>
 refine wpAnyH_take (i := 54) (v := ?_) rfl (by kernel_rfl) (by kernel_rfl) (by kernel_rfl) (fun _ _ _ h => h) (Or.inl ⟨by kernel_rfl, ?_⟩) (by assumption) ?_
 rotate_left
 focus (intro w hSw; (try dsimp only at hSw); go_simp; try with_reducible rfl)
 (try simp only [Act.put, List.getElem_toArray, List.getElem_cons_succ, List.getElem_cons_zero, List.setIfInBounds_toArray, List.set_cons_zero, List.set_cons_succ])
 refine wpAnyH_take (i := 55) (v := ?_) rfl (by kernel_rfl) (by kernel_rfl) (by kernel_rfl) (fun _ _ _ h => h) (Or.inl ⟨by kernel_rfl, ?_⟩) (by assumption) ?_
 rotate_left
 focus (intro w hSw; (try dsimp only at hSw); go_simp; try with_reducible rfl)
 (try simp only [Act.put, List.getElem_toArray, List.getElem_cons_succ, List.getElem_cons_zero, List.setIfInBounds_toArray, List.set_cons_zero, List.set_cons_succ])
 refine wpAnyH_take (i := 57) (v := ?_) rfl (by kernel_rfl) (by kernel_rfl) (by kernel_rfl) (fun _ _ _ h => h) (Or.inl ⟨by kernel_rfl, ?_⟩) (by assumption) ?_
 rotate_left
 focus (intro w hSw; (try dsimp only at hSw); go_simp; try with_reducible rfl)
 (try simp only [Act.put, List.getElem_toArray, List.getElem_cons_succ, List.getElem_cons_zero, List.setIfInBounds_toArray, List.set_cons_zero, List.set_cons_succ])
 refine wpAnyH_take (i := 58) (v := ?_) rfl (by kernel_rfl) (by kernel_rfl) (by kernel_rfl) (fun _ _ _ h => h) (Or.inl ⟨by kernel_rfl, ?_⟩) (by assumption) ?_
 rotate_left
 focus (intro w hSw; (try dsimp only at hSw); go_simp; try with_reducible rfl)
 (try simp only [Act.put, List.getElem_toArray, List.getElem_cons_succ, List.getElem_cons_zero, List.setIfInBounds_toArray, List.set_cons_zero, List.set_cons_succ])
 refine wpAnyH_take (i := 59) (v := ?_) rfl (by kernel_rfl) (by kernel_rfl) (by kernel_rfl) (fun _ _ _ h => h) (Or.inl ⟨by kernel_rfl, ?_⟩) (by assumption) ?_
 rotate_left
 focus (intro w hSw; (try dsimp only at hSw); go_simp; try with_reducible rfl)
 (try simp only [Act.put, List.getElem_toArray, List.getElem_cons_succ, List.getElem_cons_zero, List.setIfInBounds_toArray, List.set_cons_zero, List.set_cons_succ])
 refine wpAnyH_take (i := 60) (v := ?_) rfl (by kernel_rfl) (by kernel_rfl) (by kernel_rfl) (fun _ _ _ h => h) (Or.inl ⟨by kernel_rfl, ?_⟩) (by assumption) ?_
 rotate_left
 focus (intro w hSw; (try dsimp only at hSw); go_simp; try with_reducible rfl)
 (try simp only [Act.put, List.getElem_toArray, List.getElem_cons_succ, List.getElem_cons_zero, List.setIfInBounds_toArray, List.set_cons_zero, List.set_cons_succ])
 refine wpAnyH_ready (rs := [56]) (by kernel_rfl) (by simp) ?_;refine AllReadyH.cons rfl (fun K hK => ?_) ?_
 rotate_left
 exact AllReadyH.nil
 (try simp only [List.getElem_toArray, List.getElem_cons_succ, List.getElem_cons_zero])
 go_simp
 (with_reducible refine (HL7.out _).mono ?_)
 rintro _ w6 ⟨A7, rfl, hA, hb⟩;have hS6 : (w6.cell? ⟨w.heap.size, 0, none⟩ = some (Value.int .i64 n0) /\ w6.cell? ⟨w.heap.size, 1, none⟩ = some (Value.int .i64 n1) /\ w6.cell? ⟨w.heap.size, 2, none⟩ = some (Value.int .i64 n2) /\ w6.cell? ⟨w.heap.size, 3, none⟩ = some (Value.int .i64 n3) /\ w6.cell? ⟨w.heap.size, 4, none⟩ = some (Value.int .i64 n4) /\ w6.cell? ⟨w.heap.size, 5, none⟩ = some (vn5) /\ w6.cell? ⟨w.heap.size, 6, none⟩ = some (vn6) /\ w6.cell? ⟨w.heap.size, 7, none⟩ = some (vn7) /\ w6.cell? ⟨w.heap.size, 8, none⟩ = some (vn8) /\ w6.cell? ⟨w.heap.size, 9, none⟩ = some (vn9) /\ w6.cell? ⟨g, 0, none⟩ = some (Value.int .i64 n0) /\ w6.cell? ⟨g, 1, none⟩ = some (Value.int .i64 n1) /\ w6.cell? ⟨g, 2, none⟩ = some (Value.int .i64 n2) /\ w6.cell? ⟨g, 3, none⟩ = some (Value.int .i64 n3) /\ w6.cell? ⟨g, 4, none⟩ = some (Value.int .i64 n4) /\ w6.cell? ⟨g, 5, none⟩ = some (vm5) /\ w6.cell? ⟨g, 6, none⟩ = some (vm6) /\ w6.cell? ⟨g, 7, none⟩ = some (vm7) /\ w6.cell? ⟨g, 8, none⟩ = some (vm8) /\ w6.cell? ⟨g, 9, none⟩ = some (vm9) /\ Below w.heap.size w w6) := by
  have hSx := hS5;exact ⟨za hb hSx.1, za hb hSx.2.1, za hb hSx.2.2.1, za hb hSx.2.2.2.1, za hb hSx.2.2.2.2.1, za hb hSx.2.2.2.2.2.1, za hb hSx.2.2.2.2.2.2.1, za hb hSx.2.2.2.2.2.2.2.1, za hb hSx.2.2.2.2.2.2.2.2.1, za hb hSx.2.2.2.2.2.2.2.2.2.1, za hb hSx.2.2.2.2.2.2.2.2.2.2.1, za hb hSx.2.2.2.2.2.2.2.2.2.2.2.1, za hb hSx.2.2.2.2.2.2.2.2.2.2.2.2.1, za hb hSx.2.2.2.2.2.2.2.2.2.2.2.2.2.1, za hb hSx.2.2.2.2.2.2.2.2.2.2.2.2.2.2.1, za hb hSx.2.2.2.2.2.2.2.2.2.2.2.2.2.2.2.1, za hb hSx.2.2.2.2.2.2.2.2.2.2.2.2.2.2.2.2.1, za hb hSx.2.2.2.2.2.2.2.2.2.2.2.2.2.2.2.2.2.1, za hb hSx.2.2.2.2.2.2.2.2.2.2.2.2.2.2.2.2.2.2.1, za hb hSx.2.2.2.2.2.2.2.2.2.2.2.2.2.2.2.2.2.2.2.1, hSx.2.2.2.2.2.2.2.2.2.2.2.2.2.2.2.2.2.2.2.2.trans (hb.mono hSx.2.2.2.2.2.2.2.2.2.2.2.2.2.2.2.2.2.2.2.2.size)⟩
 have HA7 := Lib.hid hA;clear hA;clear hb;go_simp
 refine hK.out _ _ ?_ (fun hHeld => ?_);assumption
 clear hK K
 (try simp only [Act.put, List.getElem_toArray, List.getElem_cons_succ, List.getElem_cons_zero, List.setIfInBounds_toArray, List.set_cons_zero, List.set_cons_succ])
 refine wpAnyH_ready (rs := [61]) (by kernel_rfl) (by simp) ?_;refine AllReadyH.cons rfl (fun K hK => ?_) ?_
 rotate_left
 exact AllReadyH.nil
 (try simp only [List.getElem_toArray, List.getElem_cons_succ, List.getElem_cons_zero])
 go_simp
 (with_reducible refine (H7.out _ A7 hS6.2.2.2.2.2.2.2.2.2.2.2.2.2.2.2.2.2.2.2.2 HA7.out).mono ?_)
 rintro _ w7 ⟨rfl, hb⟩;have hS7 : (w7.cell? ⟨w.heap.size, 0, none⟩ = some (Value.int .i64 n0) /\ w7.cell? ⟨w.heap.size, 1, none⟩ = some (Value.int .i64 n1) /\ w7.cell? ⟨w.heap.size, 2, none⟩ = some (Value.int .i64 n2) /\ w7.cell? ⟨w.heap.size, 3, none⟩ = some (Value.int .i64 n3) /\ w7.cell? ⟨w.heap.size, 4, none⟩ = some (Value.int .i64 n4) /\ w7.cell? ⟨w.heap.size, 5, none⟩ = some (vn5) /\ w7.cell? ⟨w.heap.size, 6, none⟩ = some (vn6) /\ w7.cell? ⟨w.heap.size, 7, none⟩ = some (vn7) /\ w7.cell? ⟨w.heap.size, 8, none⟩ = some (vn8) /\ w7.cell? ⟨w.heap.size, 9, none⟩ = some (vn9) /\ w7.cell? ⟨g, 0, none⟩ = some (Value.int .i64 n0) /\ w7.cell? ⟨g, 1, none⟩ = some (Value.int .i64 n1) /\ w7.cell? ⟨g, 2, none⟩ = some (Value.int .i64 n2) /\ w7.cell? ⟨g, 3, none⟩ = some (Value.int .i64 n3) /\ w7.cell? ⟨g, 4, none⟩ = some (Value.int .i64 n4) /\ w7.cell? ⟨g, 5, none⟩ = some (vm5) /\ w7.cell? ⟨g, 6, none⟩ = some (vm6) /\ w7.cell? ⟨g, 7, none⟩ = some (vm7) /\ w7.cell? ⟨g, 8, none⟩ = some (vm8) /\ w7.cell? ⟨g, 9, none⟩ = some (vm9) /\ Below w.heap.size w w7) := by
  have hSx := hS6;exact ⟨za hb hSx.1, za hb hSx.2.1, za hb hSx.2.2.1, za hb hSx.2.2.2.1, za hb hSx.2.2.2.2.1, za hb hSx.2.2.2.2.2.1, za hb hSx.2.2.2.2.2.2.1, za hb hSx.2.2.2.2.2.2.2.1, za hb hSx.2.2.2.2.2.2.2.2.1, za hb hSx.2.2.2.2.2.2.2.2.2.1, za hb hSx.2.2.2.2.2.2.2.2.2.2.1, za hb hSx.2.2.2.2.2.2.2.2.2.2.2.1, za hb hSx.2.2.2.2.2.2.2.2.2.2.2.2.1, za hb hSx.2.2.2.2.2.2.2.2.2.2.2.2.2.1, za hb hSx.2.2.2.2.2.2.2.2.2.2.2.2.2.2.1, za hb hSx.2.2.2.2.2.2.2.2.2.2.2.2.2.2.2.1, za hb hSx.2.2.2.2.2.2.2.2.2.2.2.2.2.2.2.2.1, za hb hSx.2.2.2.2.2.2.2.2.2.2.2.2.2.2.2.2.2.1, za hb hSx.2.2.2.2.2.2.2.2.2.2.2.2.2.2.2.2.2.2.1, za hb hSx.2.2.2.2.2.2.2.2.2.2.2.2.2.2.2.2.2.2.2.1, hSx.2.2.2.2.2.2.2.2.2.2.2.2.2.2.2.2.2.2.2.2.trans (hb.mono hSx.2.2.2.2.2.2.2.2.2.2.2.2.2.2.2.2.2.2.2.2.size)⟩
 clear hb;go_simp
 refine hK.out _ _ ?_ (fun hHeld => ?_);assumption
 clear hK K
 (try simp only [Act.put, List.getElem_toArray, List.getElem_cons_succ, List.getElem_cons_zero, List.setIfInBounds_toArray, List.set_cons_zero, List.set_cons_succ])
 cases b7 with
 | false =>
  refine wpAnyH_take (i := 62) (v := ?_) rfl (by kernel_rfl) (by kernel_rfl) (by kernel_rfl) (fun _ _ _ h => h) (Or.inl ⟨by kernel_rfl, ?_⟩) (by assumption) ?_
  rotate_left
  focus (intro w hSw; (try dsimp only at hSw); go_simp; try with_reducible rfl)
  (try simp only [Act.put, List.getElem_toArray, List.getElem_cons_succ, List.getElem_cons_zero, List.setIfInBounds_toArray, List.set_cons_zero, List.set_cons_succ])
  refine wpAnyH_take (i := 63) (v := ?_) rfl (by kernel_rfl) (by kernel_rfl) (by kernel_rfl) (fun _ _ _ h => h) (Or.inl ⟨by kernel_rfl, ?_⟩) (by assumption) ?_
  rotate_left
  focus (intro w hSw; (try dsimp only at hSw); go_simp; try with_reducible rfl)
  (try simp only [Act.put, List.getElem_toArray, List.getElem_cons_succ, List.getElem_cons_zero, List.setIfInBounds_toArray, List.set_cons_zero, List.set_cons_succ])
  refine wpAnyH_take (i := 64) (v := undef) rfl (by kernel_rfl) (by kernel_rfl) (by kernel_rfl) (fun _ _ _ h => h) (Or.inr ⟨by rfl, rfl⟩) (by assumption) ?_
  (try simp only [Act.put, List.getElem_toArray, List.getElem_cons_succ, List.getElem_cons_zero, List.setIfInBounds_toArray, List.set_cons_zero, List.set_cons_succ])
  refine wpAnyH_take (i := 65) (v := undef) rfl (by kernel_rfl) (by kernel_rfl) (by kernel_rfl) (fun _ _ _ h => h) (Or.inr ⟨by rfl, rfl⟩) (by assumption) ?_
  (try simp only [Act.put, List.getElem_toArray, List.getElem_cons_succ, List.getElem_cons_zero, List.setIfInBounds_toArray, List.set_cons_zero, List.set_cons_succ])
  refine wpAnyH_take (i := 66) (v := undef) rfl (by kernel_rfl) (by kernel_rfl) (by kernel_rfl) (fun _ _ _ h => h) (Or.inr ⟨by rfl, rfl⟩) (by assumption) ?_
  (try simp only [Act.put, List.getElem_toArray, List.getElem_cons_succ, List.getElem_cons_zero, List.setIfInBounds_toArray, List.set_cons_zero, List.set_cons_succ])
  refine wpAnyH_take (i := 67) (v := undef) rfl (by kernel_rfl) (by kernel_rfl) (by kernel_rfl) (fun _ _ _ h => h) (Or.inr ⟨by rfl, rfl⟩) (by assumption) ?_
  (try simp only [Act.put, List.getElem_toArray, List.getElem_cons_succ, List.getElem_cons_zero, List.setIfInBounds_toArray, List.set_cons_zero, List.set_cons_succ])
  refine wpAnyH_take (i := 68) (v := undef) rfl (by kernel_rfl) (by kernel_rfl) (by kernel_rfl) (fun _ _ _ h => h) (Or.inr ⟨by rfl, rfl⟩) (by assumption) ?_
  (try simp only [Act.put, List.getElem_toArray, List.getElem_cons_succ, List.getElem_cons_zero, List.setIfInBounds_toArray, List.set_cons_zero, List.set_cons_succ])
  refine wpAnyH_take (i := 69) (v := undef) rfl (by kernel_rfl) (by kernel_rfl) (by kernel_rfl) (fun _ _ _ h => h) (Or.inr ⟨by rfl, rfl⟩) (by assumption) ?_
  (try simp only [Act.put, List.getElem_toArray, List.getElem_cons_succ, List.getElem_cons_zero, List.setIfInBounds_toArray, List.set_cons_zero, List.set_cons_succ])
  refine wpAnyH_take (i := 70) (v := ?_) rfl (by kernel_rfl) (by kernel_rfl) (by kernel_rfl) (fun _ _ _ h => h) (Or.inl ⟨by kernel_rfl, ?_⟩) (by assumption) ?_
  rotate_left
  focus (intro w hSw; (try dsimp only at hSw); go_simp; try with_reducible rfl)
  (try simp only [Act.put, List.getElem_toArray, List.getElem_cons_succ, List.getElem_cons_zero, List.setIfInBounds_toArray, List.set_cons_zero, List.set_cons_succ])
  refine wpAnyH_take (i := 71) (v := ?_) rfl (by kernel_rfl) (by kernel_rfl) (by kernel_rfl) (fun _ _ _ h => h) (Or.inl ⟨by kernel_rfl, ?_⟩) (by assumption) ?_
  rotate_left
  focus (intro w hSw; (try dsimp only at hSw); go_simp; try with_reducible rfl)
  (try simp only [Act.put, List.getElem_toArray, List.getElem_cons_succ, List.getElem_cons_zero, List.setIfInBounds_toArray, List.set_cons_zero, List.set_cons_succ])
  refine wpAnyH_done (by kernel_rfl) ?_ _;have HB4 := Lib.hid hS7.2.2.2.2.2.2.2.2.2.2.2.2.2.2.2.2.2.2.2.2;clear hHeld;go_wp2_with fail;go_ret;exact ⟨rfl, HB4.out⟩
 | true =>
 refine wpAnyH_take (i := 62) (v := ?_) rfl (by kernel_rfl) (by kernel_rfl) (by kernel_rfl) (fun _ _ _ h => h) (Or.inl ⟨by kernel_rfl, ?_⟩) (by assumption) ?_
 rotate_left
 focus (intro w hSw; (try dsimp only at hSw); go_simp; try with_reducible rfl)
 (try simp only [Act.put, List.getElem_toArray, List.getElem_cons_succ, List.getElem_cons_zero, List.setIfInBounds_toArray, List.set_cons_zero, List.set_cons_succ])
 refine wpAnyH_take (i := 63) (v := ?_) rfl (by kernel_rfl) (by kernel_rfl) (by kernel_rfl) (fun _ _ _ h => h) (Or.inl ⟨by kernel_rfl, ?_⟩) (by assumption) ?_
 rotate_left
 focus (intro w hSw; (try dsimp only at hSw); go_simp; try with_reducible rfl)
 (try simp only [Act.put, List.getElem_toArray, List.getElem_cons_succ, List.getElem_cons_zero, List.setIfInBounds_toArray, List.set_cons_zero, List.set_cons_succ])
 refine wpAnyH_take (i := 65) (v := ?_) rfl (by kernel_rfl) (by kernel_rfl) (by kernel_rfl) (fun _ _ _ h => h) (Or.inl ⟨by kernel_rfl, ?_⟩) (by assumption) ?_
 rotate_left
 focus (intro w hSw; (try dsimp only at hSw); go_simp; try with_reducible rfl)
 (try simp only [Act.put, List.getElem_toArray, List.getElem_cons_succ, List.getElem_cons_zero, List.setIfInBounds_toArray, List.set_cons_zero, List.set_cons_succ])
 refine wpAnyH_take (i := 66) (v := ?_) rfl (by kernel_rfl) (by kernel_rfl) (by kernel_rfl) (fun _ _ _ h => h) (Or.inl ⟨by kernel_rfl, ?_⟩) (by assumption) ?_
 rotate_left
 focus (intro w hSw; (try dsimp only at hSw); go_simp; try with_reducible rfl)
 (try simp only [Act.put, List.getElem_toArray, List.getElem_cons_succ, List.getElem_cons_zero, List.setIfInBounds_toArray, List.set_cons_zero, List.set_cons_succ])
 refine wpAnyH_take (i := 67) (v := ?_) rfl (by kernel_rfl) (by kernel_rfl) (by kernel_rfl) (fun _ _ _ h => h) (Or.inl ⟨by kernel_rfl, ?_⟩) (by assumption) ?_
 rotate_left
 focus (intro w hSw; (try dsimp only at hSw); go_simp; try with_reducible rfl)
 (try simp only [Act.put, List.getElem_toArray, List.getElem_cons_succ, List.getElem_cons_zero, List.setIfInBounds_toArray, List.set_cons_zero, List.set_cons_succ])
 refine wpAnyH_take (i := 68) (v := ?_) rfl (by kernel_rfl) (by kernel_rfl) (by kernel_rfl) (fun _ _ _ h => h) (Or.inl ⟨by kernel_rfl, ?_⟩) (by assumption) ?_
 rotate_left
 focus (intro w hSw; (try dsimp only at hSw); go_simp; try with_reducible rfl)
 (try simp only [Act.put, List.getElem_toArray, List.getElem_cons_succ, List.getElem_cons_zero, List.setIfInBounds_toArray, List.set_cons_zero, List.set_cons_succ])
 refine wpAnyH_ready (rs := [64]) (by kernel_rfl) (by simp) ?_;refine AllReadyH.cons rfl (fun K hK => ?_) ?_
 rotate_left
 exact AllReadyH.nil
 (try simp only [List.getElem_toArray, List.getElem_cons_succ, List.getElem_cons_zero])
 go_simp
 (with_reducible refine (HL8.out _).mono ?_)
 rintro _ w8 ⟨A8, rfl, hA, hb⟩;have hS8 : (w8.cell? ⟨w.heap.size, 0, none⟩ = some (Value.int .i64 n0) /\ w8.cell? ⟨w.heap.size, 1, none⟩ = some (Value.int .i64 n1) /\ w8.cell? ⟨w.heap.size, 2, none⟩ = some (Value.int .i64 n2) /\ w8.cell? ⟨w.heap.size, 3, none⟩ = some (Value.int .i64 n3) /\ w8.cell? ⟨w.heap.size, 4, none⟩ = some (Value.int .i64 n4) /\ w8.cell? ⟨w.heap.size, 5, none⟩ = some (vn5) /\ w8.cell? ⟨w.heap.size, 6, none⟩ = some (vn6) /\ w8.cell? ⟨w.heap.size, 7, none⟩ = some (vn7) /\ w8.cell? ⟨w.heap.size, 8, none⟩ = some (vn8) /\ w8.cell? ⟨w.heap.size, 9, none⟩ = some (vn9) /\ w8.cell? ⟨g, 0, none⟩ = some (Value.int .i64 n0) /\ w8.cell? ⟨g, 1, none⟩ = some (Value.int .i64 n1) /\ w8.cell? ⟨g, 2, none⟩ = some (Value.int .i64 n2) /\ w8.cell? ⟨g, 3, none⟩ = some (Value.int .i64 n3) /\ w8.cell? ⟨g, 4, none⟩ = some (Value.int .i64 n4) /\ w8.cell? ⟨g, 5, none⟩ = some (vm5) /\ w8.cell? ⟨g, 6, none⟩ = some (vm6) /\ w8.cell? ⟨g, 7, none⟩ = some (vm7) /\ w8.cell? ⟨g, 8, none⟩ = some (vm8) /\ w8.cell? ⟨g, 9, none⟩ = some (vm9) /\ Below w.heap.size w w8) := by
  have hSx := hS7;exact ⟨za hb hSx.1, za hb hSx.2.1, za hb hSx.2.2.1, za hb hSx.2.2.2.1, za hb hSx.2.2.2.2.1, za hb hSx.2.2.2.2.2.1, za hb hSx.2.2.2.2.2.2.1, za hb hSx.2.2.2.2.2.2.2.1, za hb hSx.2.2.2.2.2.2.2.2.1, za hb hSx.2.2.2.2.2.2.2.2.2.1, za hb hSx.2.2.2.2.2.2.2.2.2.2.1, za hb hSx.2.2.2.2.2.2.2.2.2.2.2.1, za hb hSx.2.2.2.2.2.2.2.2.2.2.2.2.1, za hb hSx.2.2.2.2.2.2.2.2.2.2.2.2.2.1, za hb hSx.2.2.2.2.2.2.2.2.2.2.2.2.2.2.1, za hb hSx.2.2.2.2.2.2.2.2.2.2.2.2.2.2.2.1, za hb hSx.2.2.2.2.2.2.2.2.2.2.2.2.2.2.2.2.1, za hb hSx.2.2.2.2.2.2.2.2.2.2.2.2.2.2.2.2.2.1, za hb hSx.2.2.2.2.2.2.2.2.2.2.2.2.2.2.2.2.2.2.1, za hb hSx.2.2.2.2.2.2.2.2.2.2.2.2.2.2.2.2.2.2.2.1, hSx.2.2.2.2.2.2.2.2.2.2.2.2.2.2.2.2.2.2.2.2.trans (hb.mono hSx.2.2.2.2.2.2.2.2.2.2.2.2.2.2.2.2.2.2.2.2.size)⟩
 have HA8 := Lib.hid hA;clear hA;clear hb;go_simp
 refine hK.out _ _ ?_ (fun hHeld => ?_);assumption
 clear hK K
 (try simp only [Act.put, List.getElem_toArray, List.getElem_cons_succ, List.getElem_cons_zero, List.setIfInBounds_toArray, List.set_cons_zero, List.set_cons_succ])
 refine wpAnyH_ready (rs := [69]) (by kernel_rfl) (by simp) ?_;refine AllReadyH.cons rfl (fun K hK => ?_) ?_
 rotate_left
 exact AllReadyH.nil
 (try simp only [List.getElem_toArray, List.getElem_cons_succ, List.getElem_cons_zero])
 go_simp
 (with_reducible refine (H8.out _ A8 hS8.2.2.2.2.2.2.2.2.2.2.2.2.2.2.2.2.2.2.2.2 HA8.out).mono ?_)
 rintro _ w9 ⟨rfl, hb⟩;have hS9 : (w9.cell? ⟨w.heap.size, 0, none⟩ = some (Value.int .i64 n0) /\ w9.cell? ⟨w.heap.size, 1, none⟩ = some (Value.int .i64 n1) /\ w9.cell? ⟨w.heap.size, 2, none⟩ = some (Value.int .i64 n2) /\ w9.cell? ⟨w.heap.size, 3, none⟩ = some (Value.int .i64 n3) /\ w9.cell? ⟨w.heap.size, 4, none⟩ = some (Value.int .i64 n4) /\ w9.cell? ⟨w.heap.size, 5, none⟩ = some (vn5) /\ w9.cell? ⟨w.heap.size, 6, none⟩ = some (vn6) /\ w9.cell? ⟨w.heap.size, 7, none⟩ = some (vn7) /\ w9.cell? ⟨w.heap.size, 8, none⟩ = some (vn8) /\ w9.cell? ⟨w.heap.size, 9, none⟩ = some (vn9) /\ w9.cell? ⟨g, 0, none⟩ = some (Value.int .i64 n0) /\ w9.cell? ⟨g, 1, none⟩ = some (Value.int .i64 n1) /\ w9.cell? ⟨g, 2, none⟩ = some (Value.int .i64 n2) /\ w9.cell? ⟨g, 3, none⟩ = some (Value.int .i64 n3) /\ w9.cell? ⟨g, 4, none⟩ = some (Value.int .i64 n4) /\ w9.cell? ⟨g, 5, none⟩ = some (vm5) /\ w9.cell? ⟨g, 6, none⟩ = some (vm6) /\ w9.cell? ⟨g, 7, none⟩ = some (vm7) /\ w9.cell? ⟨g, 8, none⟩ = some (vm8) /\ w9.cell? ⟨g, 9, none⟩ = some (vm9) /\ Below w.heap.size w w9) := by
  have hSx := hS8;exact ⟨za hb hSx.1, za hb hSx.2.1, za hb hSx.2.2.1, za hb hSx.2.2.2.1, za hb hSx.2.2.2.2.1, za hb hSx.2.2.2.2.2.1, za hb hSx.2.2.2.2.2.2.1, za hb hSx.2.2.2.2.2.2.2.1, za hb hSx.2.2.2.2.2.2.2.2.1, za hb hSx.2.2.2.2.2.2.2.2.2.1, za hb hSx.2.2.2.2.2.2.2.2.2.2.1, za hb hSx.2.2.2.2.2.2.2.2.2.2.2.1, za hb hSx.2.2.2.2.2.2.2.2.2.2.2.2.1, za hb hSx.2.2.2.2.2.2.2.2.2.2.2.2.2.1, za hb hSx.2.2.2.2.2.2.2.2.2.2.2.2.2.2.1, za hb hSx.2.2.2.2.2.2.2.2.2.2.2.2.2.2.2.1, za hb hSx.2.2.2.2.2.2.2.2.2.2.2.2.2.2.2.2.1, za hb hSx.2.2.2.2.2.2.2.2.2.2.2.2.2.2.2.2.2.1, za hb hSx.2.2.2.2.2.2.2.2.2.2.2.2.2.2.2.2.2.2.1, za hb hSx.2.2.2.2.2.2.2.2.2.2.2.2.2.2.2.2.2.2.2.1, hSx.2.2.2.2.2.2.2.2.2.2.2.2.2.2.2.2.2.2.2.2.trans (hb.mono hSx.2.2.2.2.2.2.2.2.2.2.2.2.2.2.2.2.2.2.2.2.size)⟩
 clear hb;go_simp
 refine hK.out _ _ ?_ (fun hHeld => ?_);assumption
 clear hK K
 (try simp only [Act.put, List.getElem_toArray, List.getElem_cons_succ, List.getElem_cons_zero, List.setIfInBounds_toArray, List.set_cons_zero, List.set_cons_succ])
 refine wpAnyH_take (i := 70) (v := ?_) rfl (by kernel_rfl) (by kernel_rfl) (by kernel_rfl) (fun _ _ _ h => h) (Or.inl ⟨by kernel_rfl, ?_⟩) (by assumption) ?_
 rotate_left
 focus (intro w hSw; (try dsimp only at hSw); go_simp; try with_reducible rfl)
 (try simp only [Act.put, List.getElem_toArray, List.getElem_cons_succ, List.getElem_cons_zero, List.setIfInBounds_toArray, List.set_cons_zero, List.set_cons_succ])
 refine wpAnyH_take (i := 71) (v := ?_) rfl (by kernel_rfl) (by kernel_rfl) (by kernel_rfl) (fun _ _ _ h => h) (Or.inl ⟨by kernel_rfl, ?_⟩) (by assumption) ?_
 rotate_left
 focus (intro w hSw; (try dsimp only at hSw); go_simp; try with_reducible rfl)
 (try simp only [Act.put, List.getElem_toArray, List.getElem_cons_succ, List.getElem_cons_zero, List.setIfInBounds_toArray, List.set_cons_zero, List.set_cons_succ])
 refine wpAnyH_done (by kernel_rfl) ?_ _;have HB4 := Lib.hid hS9.2.2.2.2.2.2.2.2.2.2.2.2.2.2.2.2.2.2.2.2;clear hHeld;go_wp2_with fail;go_ret;exact ⟨rfl, HB4.out⟩
end Go.Proofs.YtaidhoepnefcpaaGreat.C10
