/-
  Layer 11, the program: whether two frames are the same.
-/
import Derived.Test.YtaidhoepnefcpaaGreatBP11RefB
namespace Go.Proofs.YtaidhoepnefcpaaGreat.C10
open Go Go.RowKit Go.Proofs B K P8
set_option linter.unusedVariables false
set_option maxRecDepth 100000
set_option maxHeartbeats 40000000 in
theorem psame_ints (n0 : Int) (n1 : Int) (n2 : Int) (n3 : Int) (n4 : Int) (m0 : Int) (m1 : Int) (m2 : Int) (m3 : Int) (m4 : Int) (vn5 vn6 vn7 vn8 vn9 vm5 vm6 vm7 vm8 vm9 : Value) (w : World) (hne : ¬ (n0 = m0 /\ n1 = m1 /\ n2 = m2 /\ n3 = m3 /\ n4 = m4)) :
 Calls Tryz.prog 15 #[.agg #[.int .i64 n0, .int .i64 n1, .int .i64 n2, .int .i64 n3, .int .i64 n4, vn5, vn6, vn7, vn8, vn9], .agg #[.int .i64 m0, .int .i64 m1, .int .i64 m2, .int .i64 m3, .int .i64 m4, vm5, vm6, vm7, vm8, vm9]] w fun z w' => z = .returned (.bool false) /\ Below w.heap.size w w' := by
 obtain ⟨W0, hW0⟩ : ∃ W0, w.alloc (.cells #[.int .i64 n0, .int .i64 n1, .int .i64 n2, .int .i64 n3, .int .i64 n4, vn5, vn6, vn7, vn8, vn9] 28) = W0 := ⟨_, rfl⟩;obtain ⟨g, hg⟩ : ∃ g, W0.heap.size = g := ⟨_, rfl⟩;obtain ⟨W1, hW1⟩ : ∃ W1, W0.alloc (.cells #[.int .i64 m0, .int .i64 m1, .int .i64 m2, .int .i64 m3, .int .i64 m4, vm5, vm6, vm7, vm8, vm9] 28) = W1 := ⟨_, rfl⟩;have hB0 : Below w.heap.size w W0 := by rw [<- hW0]; exact zf _ _
 have hB1 : Below W0.heap.size W0 W1 := by rw [<- hW1]; exact zf _ _
 have k0 : W1.cell? ⟨w.heap.size, 0, none⟩ = some (.int .i64 n0) := za hB1 (by rw [<- hW0]; exact ze w [_, _, _, _, _, _, _, _, _, _] _ 0 _ rfl);have k1 : W1.cell? ⟨w.heap.size, 1, none⟩ = some (.int .i64 n1) := za hB1 (by rw [<- hW0]; exact ze w [_, _, _, _, _, _, _, _, _, _] _ 1 _ rfl);have k2 : W1.cell? ⟨w.heap.size, 2, none⟩ = some (.int .i64 n2) := za hB1 (by rw [<- hW0]; exact ze w [_, _, _, _, _, _, _, _, _, _] _ 2 _ rfl);have k3 : W1.cell? ⟨w.heap.size, 3, none⟩ = some (.int .i64 n3) := za hB1 (by rw [<- hW0]; exact ze w [_, _, _, _, _, _, _, _, _, _] _ 3 _ rfl);have k4 : W1.cell? ⟨w.heap.size, 4, none⟩ = some (.int .i64 n4) := za hB1 (by rw [<- hW0]; exact ze w [_, _, _, _, _, _, _, _, _, _] _ 4 _ rfl);have k5 : W1.cell? ⟨w.heap.size, 5, none⟩ = some (vn5) := za hB1 (by rw [<- hW0]; exact ze w [_, _, _, _, _, _, _, _, _, _] _ 5 _ rfl);have k6 : W1.cell? ⟨w.heap.size, 6, none⟩ = some (vn6) := za hB1 (by rw [<- hW0]; exact ze w [_, _, _, _, _, _, _, _, _, _] _ 6 _ rfl);have k7 : W1.cell? ⟨w.heap.size, 7, none⟩ = some (vn7) := za hB1 (by rw [<- hW0]; exact ze w [_, _, _, _, _, _, _, _, _, _] _ 7 _ rfl);have k8 : W1.cell? ⟨w.heap.size, 8, none⟩ = some (vn8) := za hB1 (by rw [<- hW0]; exact ze w [_, _, _, _, _, _, _, _, _, _] _ 8 _ rfl);have k9 : W1.cell? ⟨w.heap.size, 9, none⟩ = some (vn9) := za hB1 (by rw [<- hW0]; exact ze w [_, _, _, _, _, _, _, _, _, _] _ 9 _ rfl);have j0 : W1.cell? ⟨g, 0, none⟩ = some (.int .i64 m0) := by rw [<- hW1, <- hg]; exact ze W0 [_, _, _, _, _, _, _, _, _, _] _ 0 _ rfl
 have j1 : W1.cell? ⟨g, 1, none⟩ = some (.int .i64 m1) := by rw [<- hW1, <- hg]; exact ze W0 [_, _, _, _, _, _, _, _, _, _] _ 1 _ rfl
 have j2 : W1.cell? ⟨g, 2, none⟩ = some (.int .i64 m2) := by rw [<- hW1, <- hg]; exact ze W0 [_, _, _, _, _, _, _, _, _, _] _ 2 _ rfl
 have j3 : W1.cell? ⟨g, 3, none⟩ = some (.int .i64 m3) := by rw [<- hW1, <- hg]; exact ze W0 [_, _, _, _, _, _, _, _, _, _] _ 3 _ rfl
 have j4 : W1.cell? ⟨g, 4, none⟩ = some (.int .i64 m4) := by rw [<- hW1, <- hg]; exact ze W0 [_, _, _, _, _, _, _, _, _, _] _ 4 _ rfl
 have j5 : W1.cell? ⟨g, 5, none⟩ = some (vm5) := by rw [<- hW1, <- hg]; exact ze W0 [_, _, _, _, _, _, _, _, _, _] _ 5 _ rfl
 have j6 : W1.cell? ⟨g, 6, none⟩ = some (vm6) := by rw [<- hW1, <- hg]; exact ze W0 [_, _, _, _, _, _, _, _, _, _] _ 6 _ rfl
 have j7 : W1.cell? ⟨g, 7, none⟩ = some (vm7) := by rw [<- hW1, <- hg]; exact ze W0 [_, _, _, _, _, _, _, _, _, _] _ 7 _ rfl
 have j8 : W1.cell? ⟨g, 8, none⟩ = some (vm8) := by rw [<- hW1, <- hg]; exact ze W0 [_, _, _, _, _, _, _, _, _, _] _ 8 _ rfl
 have j9 : W1.cell? ⟨g, 9, none⟩ = some (vm9) := by rw [<- hW1, <- hg]; exact ze W0 [_, _, _, _, _, _, _, _, _, _] _ 9 _ rfl
 have HB := Lib.hid (hB0.trans (hB1.mono hB0.size));clear hB0 hB1;by_cases h0 : n0 = m0
 rotate_left 1
 ·have e0 : (n0 == m0) = false := by simpa using h0
  clear h0 hne;go_enter Tryz.func15, Tryz.ntmps15;go_upto_region 1 with fail
  simp only [List.append_eq, List.cons_append, List.nil_append];go_quiet (fail)
  go_wp2_with fail;go_ret;exact ⟨rfl, below_drewN HB.out _⟩
 subst h0;by_cases h1 : n1 = m1
 rotate_left 1
 ·have e1 : (n1 == m1) = false := by simpa using h1
  clear h1 hne;go_enter Tryz.func15, Tryz.ntmps15;go_upto_region 1 with fail
  simp only [List.append_eq, List.cons_append, List.nil_append];go_quiet (fail)
  go_wp2_with fail;go_ret;exact ⟨rfl, below_drewN HB.out _⟩
 subst h1;by_cases h2 : n2 = m2
 rotate_left 1
 ·have e2 : (n2 == m2) = false := by simpa using h2
  clear h2 hne;go_enter Tryz.func15, Tryz.ntmps15;go_upto_region 1 with fail
  simp only [List.append_eq, List.cons_append, List.nil_append];go_quiet (fail)
  go_wp2_with fail;go_ret;exact ⟨rfl, below_drewN HB.out _⟩
 subst h2;by_cases h3 : n3 = m3
 rotate_left 1
 ·have e3 : (n3 == m3) = false := by simpa using h3
  clear h3 hne;go_enter Tryz.func15, Tryz.ntmps15;go_upto_region 1 with fail
  simp only [List.append_eq, List.cons_append, List.nil_append];go_quiet (fail)
  go_wp2_with fail;go_ret;exact ⟨rfl, below_drewN HB.out _⟩
 subst h3;by_cases h4 : n4 = m4
 rotate_left 1
 ·have e4 : (n4 == m4) = false := by simpa using h4
  clear h4 hne;go_enter Tryz.func15, Tryz.ntmps15;go_upto_region 1 with fail
  simp only [List.append_eq, List.cons_append, List.nil_append];go_quiet (fail)
  go_wp2_with fail;go_ret;exact ⟨rfl, below_drewN HB.out _⟩
 subst h4;exact absurd ⟨rfl, rfl, rfl, rfl, rfl⟩ hne
end Go.Proofs.YtaidhoepnefcpaaGreat.C10
