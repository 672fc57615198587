/-
  Layer 6: a shown table is not long.
-/
import Derived.Test.YtjcajeehgjpmmaaGreatDoorTSf
namespace Go.Proofs.YtjcajeehgjpmmaaGreatDoor.T
open Go Go.RowKit B K E R
set_option linter.unusedVariables false
set_option maxRecDepth 100000
theorem flat_len {X : Type} (f : X -> Bs) (B : Nat) : ∀ l : List X, (∀ x ∈ l, (f x).length <= B) -> (l.flatMap f).length <= l.length * B
 | [], _ => by simp
 | x :: l, h => by
  have ih := flat_len f B l fun y hy => h y (List.mem_cons_of_mem _ hy)
  have h1 := h x List.mem_cons_self;rw [List.flatMap_cons, List.length_append, List.length_cons, Nat.succ_mul];omega
theorem flat_len2 {X Y : Type} (f : X -> List Y) (B : Nat) : ∀ l : List X, (∀ x ∈ l, (f x).length <= B) -> (l.flatMap f).length <= l.length * B
 | [], _ => by simp
 | x :: l, h => by
  have ih := flat_len2 f B l fun y hy => h y (List.mem_cons_of_mem _ hy)
  have h1 := h x List.mem_cons_self;rw [List.flatMap_cons, List.length_append, List.length_cons, Nat.succ_mul];omega
theorem table_len {t : Tb} (h : chk5 t = (0, 0, 0, 0)) : ∀ y ∈ tableLines t, y.length <= 300 := by
 have hFi := fine_of h;have hM := may_of h;have hS : ∀ y ∈ t.states, y.length <= 24 := fun y hy => I.name_length y (hM.sname y hy)
 have hV : ∀ y ∈ t.vars, y.length <= 24 := fun y hy => I.name_length y (hM.vname y hy)
 have hst : (starts t).length <= 6 /\ ∀ y ∈ starts t, y.length <= 40 := by
  unfold starts;refine ⟨by rw [List.length_map, List.length_zip]; have := hFi.vars; omega, fun y hy => ?_⟩;obtain ⟨⟨a, b⟩, hab, rfl⟩ := List.mem_map.1 hy;have h1 := hV a (List.of_mem_zip hab).1;have h2 := hM.sval b (List.of_mem_zip hab).2;have h3 := num_length b (by simp [isVal] at h2; omega);simp only [List.length_append, List.length_cons];omega
 have hj1 : (Lib.join t.states [32]).length <= 200 := by
  have := join_len [32] 24 t.states hS;have h2 : t.states.length * (24 + [32].length) <= 8 * 25 := Nat.mul_le_mul hFi.states.2 (by decide);omega
 have hj2 : (Lib.join (wVars :: starts t) [32]).length <= 300 := by
  have := join_len [32] 40 (wVars :: starts t) (fun y hy => by rcases List.mem_cons.1 hy with rfl | hy; exact (by decide); exact hst.2 y hy);have h2 : (wVars :: starts t).length * (40 + [32].length) <= 7 * 41 := Nat.mul_le_mul (by simp; exact hst.1) (by decide);omega
 intro y hy;unfold tableLines at hy;simp only [List.mem_cons, List.not_mem_nil, or_false] at hy;rcases hy with rfl | rfl
 ·simp [wStates]; omega
 ·exact hj2
theorem shown_len {t : Tb} (h : chk5 t = (0, 0, 0, 0)) : (shownT t).length <= 10000000 := by
 have hFi := fine_of h;have hM := may_of h;unfold shownT;rw [lines_eq t hM.sne];have h1 := flat_len (fun l : Bs => l ++ [10]) 30001 (tableLines t ++ t.rules.flatMap (rlLines t)) (fun y hy => by
  rw [List.length_append, List.length_singleton];rcases List.mem_append.1 hy with hy | hy
  ·have := table_len h y hy; omega
  ·obtain ⟨q, hq, hy⟩ := List.mem_flatMap.1 hy
   have := line_len h hq y hy; omega)
 have h2 := flat_len2 (rlLines t) 8 t.rules (fun q hq => by
  rw [rl_len];have := (hFi.guards q hq).1;have := (hFi.steps q hq).1;omega)
 have h3 : t.rules.length * 8 <= 12 * 8 := Nat.mul_le_mul hFi.rules (by decide);have h4 : (tableLines t).length = 2 := rfl;rw [List.length_append] at h1;have h5 : ((tableLines t).length + (t.rules.flatMap (rlLines t)).length) * 30001 <= 98 * 30001 := Nat.mul_le_mul (by omega) (by decide);omega
end Go.Proofs.YtjcajeehgjpmmaaGreatDoor.T
