/-
  Layer 11, the document's answers: whether two states, two commands are the same (told for any two).
-/
import Derived.Test.YtaidhoepnefcpaaGreatBP10RefF
namespace Go.Proofs.YtaidhoepnefcpaaGreat.C10
open Go Go.RowKit Go.Proofs B K P8
set_option linter.unusedVariables false
set_option maxRecDepth 100000
noncomputable def eqv {X : Type} (a b : X) : Bool := @decide (a = b) (Classical.propDecidable _)
theorem zN {X : Type} (a : X) : eqv a a = true := by unfold eqv; simp
theorem zI {X : Type} {a b : X} (h : ¬ a = b) : eqv a b = false := by unfold eqv; simpa using h
theorem yf {X : Type} {a b : X} : eqv a b = true ↔ a = b := by unfold eqv; simp
theorem eqv_cons {X : Type} (x y : X) (l m : List X) : eqv (x :: l) (y :: m) = (eqv x y && eqv l m) := by
 rw [Bool.eq_iff_iff, Bool.and_eq_true, yf, yf, yf, List.cons.injEq]
theorem yP {X : Type} {l m : List X} {x y : X} {K : Nat} (h : l[K]? = some x) (h' : m[K]? = some y) : eqv (l.drop K) (m.drop K) = (eqv x y && eqv (l.drop (K + 1)) (m.drop (K + 1))) := by
 obtain ⟨hlt, rfl⟩ := List.getElem?_eq_some_iff.1 h;obtain ⟨hlt', rfl⟩ := List.getElem?_eq_some_iff.1 h';rw [List.drop_eq_getElem_cons hlt, List.drop_eq_getElem_cons hlt', eqv_cons]
theorem qb {X : Type} {l m : List X} {K : Nat} (h : l.length <= K) (h' : m.length <= K) : eqv (l.drop K) (m.drop K) = true := by
 rw [List.drop_of_length_le h, List.drop_of_length_le h', zN]
theorem yO {X : Type} {l m : List X} (h : ¬ l.length = m.length) : eqv l m = false := zI fun e => h (by rw [e])
theorem yj (l : List UInt8) : (str l).toList = l := by rw [Lib.toList_data]; simp [str]
theorem tx_ne {a b : List UInt8} (h : ¬ a = b) : (!(str a).toList == (str b).toList) = true := by rw [yj, yj]; simpa using h
theorem tx_eq (a : List UInt8) : (!(str a).toList == (str a).toList) = false := by simp
theorem eqv_int (a b : Int) : eqv a b = (a == b) := by
 rw [Bool.eq_iff_iff, yf]; simp
theorem tx_ne2 {a b : List UInt8} (h : ¬ a = b) : ((str a).toList == (str b).toList) = false := by rw [yj, yj]; simpa using h
end Go.Proofs.YtaidhoepnefcpaaGreat.C10
