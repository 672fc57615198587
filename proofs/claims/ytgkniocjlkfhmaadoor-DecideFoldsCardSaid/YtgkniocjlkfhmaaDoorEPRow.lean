/-
  Contracts of the program of layer 3: the row of numbers that wait (put, take, do).
-/
import Derived.Test.YtgkniocjlkfhmaaDoorSVi
import Derived.Test.YtgkniocjlkfhmaaDoorSVe
import Derived.RegionTactic
import Derived.ChangeAlike
import Derived.StillTailTactics
namespace Go.Proofs.YtgkniocjlkfhmaaDoor.E
open Go Go.RowKit Go.Proofs.YtgkniocjlkfhmaaDoor.B Go.Proofs.YtgkniocjlkfhmaaDoor.K
set_option linter.unusedVariables false
set_option maxRecDepth 100000

/-- Block B is the row of the numbers st (the last one first). -/
def RowAt (w : World) (B : Nat) (st : List Int) : Prop :=
  ∃ cs : Array Value, w.heap[B]? = some (.cells cs 91 (0, 0)) ∧ cs.size = 32 ∧ st.length ≤ 31 ∧ (∀ (j : Nat) (u : Value), (rowOf st)[j]? = some u → cs[j]? = some u) ∧ cs[31]? = some (.int .i64 (st.length : Int))

theorem RowAt.lt {w : World} {B : Nat} {st : List Int} (h : RowAt w B st) : B < w.heap.size := by
  obtain ⟨cs, h, _⟩ := h
  exact (Array.getElem?_eq_some_iff.1 h).1

theorem RowAt.below {w w' : World} {B : Nat} {st : List Int} (h : RowAt w B st) (hb : Below w.heap.size w w') : RowAt w' B st := by
  have hlt := h.lt
  obtain ⟨cs, h, r⟩ := h
  exact ⟨cs, (hb.block _ hlt).trans h, r⟩

theorem rowOf_get (st : List Int) (j : Nat) (u : Value) (h : (rowOf st)[j]? = some u) : j < st.length := by
  have := (List.getElem?_eq_some_iff.1 h).1
  rwa [rowOf_length] at this

/-- Block B alone may have turned of what was there. -/
def Tch (B : Nat) (w w' : World) : Prop := w.grownBy w' (some B)

theorem Tch.trans {B : Nat} {a b c : World} (h : Tch B a b) (k : Tch B b c) : Tch B a c :=
  ⟨k.os.trans h.os, k.tape.trans h.tape, k.output.trans h.output, Nat.le_trans h.size k.size, fun i hi hn => (k.block i (Nat.lt_of_lt_of_le hi h.size) hn).trans (h.block i hi hn)⟩
theorem Tch.refl (B : Nat) (w : World) : Tch B w w := ⟨rfl, rfl, rfl, Nat.le_refl _, fun _ _ _ => rfl⟩
theorem Tch.of_below {B : Nat} {w w' : World} (h : Below w.heap.size w w') : Tch B w w' := ⟨h.os, h.tape, h.output, h.size, fun i hi _ => h.block i hi⟩
theorem Tch.set (B o : Nat) (w : World) (v : Value) : Tch B w (w.setCell ⟨B, o, none⟩ v) :=
  ⟨rfl, rfl, rfl, by simp [World.setCell], fun i _ hn => Below.heap_setCell _ _ _ i (fun e => hn (by rw [e]))⟩
theorem Tch.drew {B : Nat} {w w' : World} (h : Tch B w w') : Tch B w w'.drew := ⟨h.os, h.tape, h.output, h.size, h.block⟩
theorem Tch.drewN {B n : Nat} {w w' : World} (h : Tch B w w') : Tch B w (w'.drewN n) := ⟨h.os, h.tape, h.output, h.size, h.block⟩
/-- Where the block is the call's own. -/
theorem Tch.below {B N : Nat} {w0 w w' : World} (h : Tch B w w') (hb : Below N w0 w) (h1 : N ≤ w.heap.size) (h2 : N ≤ B) : Below N w0 w' := hb.grown h h1 (fun k hk => by cases hk; exact h2)
/-- Another block reads as it did. -/
theorem Tch.cell {B : Nat} {w w' : World} (h : Tch B w w') {g o : Nat} {v : Value} (hc : w.cell? ⟨g, o, none⟩ = some v) (hn : g ≠ B) : w'.cell? ⟨g, o, none⟩ = some v :=
  World.grownBy.cell h hc (fun e => hn (by cases e; rfl))

theorem row_put {w : World} {B : Nat} {st : List Int} {cs : Array Value} (n : Int) (hb : w.heap[B]? = some (.cells cs 91 (0, 0))) (hs : cs.size = 32) (hl : st.length < 31)
    (hc : ∀ (j : Nat) (u : Value), (rowOf st)[j]? = some u → cs[j]? = some u) :
    RowAt ((w.setCell ⟨B, st.length, none⟩ (.int .i64 n)).setCell ⟨B, 31, none⟩ (.int .i64 ((st.length : Int) + 1))).drew B (n :: st) := by
  refine ⟨(cs.setIfInBounds st.length (.int .i64 n)).setIfInBounds 31 (.int .i64 ((st.length : Int) + 1)), ?_, by simp [hs], by simp; omega, ?_, ?_⟩
  · exact heap_setCell_same _ B 31 _ 91 _ (heap_setCell_same w B st.length cs 91 _ hb)
  · intro j u hj
    have hlt := rowOf_get _ _ _ hj
    rw [List.length_cons] at hlt
    rw [← rowOf_push, List.getElem?_append] at hj
    rw [Array.getElem?_setIfInBounds, if_neg (by omega), Array.getElem?_setIfInBounds]
    by_cases hjl : j < (rowOf st).length
    · rw [if_pos hjl] at hj
      rw [rowOf_length] at hjl
      rw [if_neg (by omega)]
      exact hc j u hj
    · rw [if_neg hjl] at hj
      rw [rowOf_length] at hj hjl
      obtain rfl : j = st.length := by omega
      rw [Nat.sub_self] at hj
      cases hj
      rw [if_pos rfl, if_pos (by omega)]
  · rw [Array.getElem?_setIfInBounds, if_pos rfl, if_pos (by simp [hs])]
    simp

theorem row_take {w : World} {B k : Nat} {st : List Int} {cs : Array Value} (n : Int) (hb : w.heap[B]? = some (.cells cs 91 (0, 0))) (hs : cs.size = 32) (hl : st.length < 31)
    (hc : ∀ (j : Nat) (u : Value), (rowOf (n :: st))[j]? = some u → cs[j]? = some u) :
    RowAt ((w.setCell ⟨B, 31, none⟩ (.int .i64 (st.length : Int))).drewN k) B st := by
  refine ⟨cs.setIfInBounds 31 (.int .i64 (st.length : Int)), ?_, by simp [hs], by omega, ?_, ?_⟩
  · exact heap_setCell_same _ B 31 _ 91 _ hb
  · intro j u hj
    have hlt := rowOf_get _ _ _ hj
    rw [Array.getElem?_setIfInBounds, if_neg (by omega)]
    refine hc j u ?_
    rw [← rowOf_push, List.getElem?_append, if_pos (by rw [rowOf_length]; exact hlt)]
    exact hj
  · rw [Array.getElem?_setIfInBounds, if_pos rfl, if_pos (by omega)]

theorem row_top {st : List Int} {cs : Array Value} (n : Int) (hc : ∀ (j : Nat) (u : Value), (rowOf (n :: st))[j]? = some u → cs[j]? = some u) : cs[st.length]? = some (.int .i64 n) := by
  refine hc _ _ ?_
  rw [← rowOf_push, List.getElem?_append, if_neg (by rw [rowOf_length]; omega), rowOf_length, Nat.sub_self]
  rfl

set_option maxHeartbeats 400000 in
theorem put_any (B : Nat) (st : List Int) (n : Int) (w : World) (hr : RowAt w B st) (hl : st.length < 31) :
    Calls Tryd.prog 41 #[.pointer (some ⟨B, 0, none⟩), .int .i64 n] w fun e w' => e = .returned (.tuple #[]) ∧ RowAt w' B (n :: st) ∧ Tch B w w' := by
  obtain ⟨cs, hb, hs, hl1, hc, h31⟩ := hr
  have HR := Lib.hid (row_put n hb hs hl hc)
  obtain ⟨L, hL⟩ : ∃ L, st.length = L := ⟨_, rfl⟩
  rw [hL] at h31 hl HR
  have c31 : w.cell? ⟨B, 31, none⟩ = some (.int .i64 (L : Int)) := by rw [cell_of_row _ _ _ cs 91 (0, 0) hb]; exact h31
  obtain ⟨old, cL, fL⟩ := row_cell hb (show L < cs.size by omega)
  obtain ⟨_, _, f31⟩ := row_cell hb (show 31 < cs.size by omega)
  have h1 : (L : Int) < 31 := by omega
  have h0 : 0 ≤ (L : Int) := by omega
  have hne : ¬ L = 31 := by omega
  have hne' : ¬ 31 = L := by omega
  clear hc hL hs hb h31 hl1
  go_enter Tryd.func41, Tryd.ntmps41
  go_wp2_with fail
  go_still_tail 9, (by kernel_rfl)
  change wpList _ _ _ _ _ w.drew
  go_wp2_with fail
  go_end0
  exact ⟨rfl, HR.out, (((Tch.set B L w _).trans (Tch.set B 31 _ _)).drew)⟩

set_option maxHeartbeats 400000 in
theorem take_any (B : Nat) (st : List Int) (n : Int) (w : World) (hr : RowAt w B (n :: st)) :
    Calls Tryd.prog 43 #[.pointer (some ⟨B, 0, none⟩)] w fun e w' => e = .returned (.int .i64 n) ∧ RowAt w' B st ∧ Tch B w w' := by
  obtain ⟨cs, hb, hs, hl1, hc, h31⟩ := hr
  rw [List.length_cons] at hl1 h31
  have HR := Lib.hid (fun k => row_take (k := k) n hb hs (by omega) hc)
  have ht := row_top n hc
  obtain ⟨L, hL⟩ : ∃ L, st.length = L := ⟨_, rfl⟩
  rw [hL] at h31 hl1 ht HR
  have c31 : w.cell? ⟨B, 31, none⟩ = some (.int .i64 ((L : Int) + 1)) := by rw [cell_of_row _ _ _ cs 91 (0, 0) hb]; exact h31
  have cL : w.cell? ⟨B, L, none⟩ = some (.int .i64 n) := by rw [cell_of_row _ _ _ cs 91 (0, 0) hb]; exact ht
  obtain ⟨_, _, f31⟩ := row_cell hb (show 31 < cs.size by omega)
  have h1 : (L : Int) < 31 := by omega
  have h0 : 0 ≤ (L : Int) := by omega
  have hne : ¬ L = 31 := by omega
  have hne' : ¬ 31 = L := by omega
  have hsub : IntKind.i64.wrap ((L : Int) + 1 - 1) = (L : Int) := by rw [Int.add_sub_cancel]; exact IntWalk.i64_in _ (by omega)
  clear hc hL hs hb h31 hl1 ht
  go_enter Tryd.func43, Tryd.ntmps43
  go_wp2_with fail
  go_quiet (fail)
  go_wp2_with fail
  go_ret
  exact ⟨rfl, HR.out _, (Tch.set B 31 w _).drewN⟩
end Go.Proofs.YtgkniocjlkfhmaaDoor.E
