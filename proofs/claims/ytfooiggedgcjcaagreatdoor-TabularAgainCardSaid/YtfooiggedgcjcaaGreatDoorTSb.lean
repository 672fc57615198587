/-
  Layer 4, to show: what is put is the pieces of what instructions make of a row of expressions.
  Layer 4, to show: an instruction put.
  Plain mathematics of layer 3: one instruction more, of what may be.
  Contract of the program of layer 4: Show.
  Layer 6: what shows a table: joins, a rule's expressions.
  Layer 6: a rule's first line, shown.
-/
import Derived.Test.YtfooiggedgcjcaaGreatDoorIPShE
import Derived.Test.YtfooiggedgcjcaaGreatDoorTSpec
import Derived.Test.YtfooiggedgcjcaaGreatDoorEPCheck
import Derived.Test.YtfooiggedgcjcaaGreatDoorTPh
import Derived.Test.YtfooiggedgcjcaaGreatDoorTRead
import Derived.Test.YtfooiggedgcjcaaGreatDoorRPs
import Derived.Deep.DeepCutAuto
namespace Go.Proofs.YtfooiggedgcjcaaGreatDoor.I
open Go Go.RowKit Go.Proofs.YtfooiggedgcjcaaGreatDoor.B Go.Proofs.YtfooiggedgcjcaaGreatDoor.K Go.Proofs.YtfooiggedgcjcaaGreatDoor.E
set_option linter.unusedVariables false

/-- An expression's level, as the program has it. -/
def lev : Ex → Int | .con n => if n < 0 then 2 else 0 | .var _ => 1 | .arg _ => 1 | .un o _ => lvl o | .bin o _ _ => lvl o | .ite _ _ _ => lvl 16
/-- An expression's piece. -/
def pc (vs : List Bs) (e : Ex) : Pc := (text vs e, lev e)

theorem lev_con (n : Int) : lev (.con n) = if n < 0 then 2 else 0 := rfl
theorem rank_con (n : Int) : rank (.con n) = if n < 0 then 6 else 7 := rfl

theorem lev_rank (nv na : Int) (e : Ex) (hw : WF nv na e) : lev e = 8 - (rank e : Int) ∨ (lev e = 0 ∧ rank e = 7) := by
  cases e with
  | con n =>
    rw [lev_con, rank_con]
    by_cases h : n < 0
    · rw [if_pos h, if_pos h]; left; rfl
    · rw [if_neg h, if_neg h]; right; exact ⟨rfl, rfl⟩
  | var k => left; rfl
  | arg k => left; rfl
  | un o a => left; rcases hw.1 with rfl | rfl <;> rfl
  | bin o a b =>
    left
    have ht := takes_is o
    have h2 : takes o = 2 := hw.1
    have ho : o = 6 ∨ o = 7 ∨ o = 8 ∨ o = 9 ∨ o = 10 ∨ o = 11 ∨ o = 12 ∨ o = 13 ∨ o = 14 ∨ o = 15 := by omega
    rcases ho with rfl | rfl | rfl | rfl | rfl | rfl | rfl | rfl | rfl | rfl <;> rfl
  | ite a b c => left; rfl

theorem upto_shw (vs : List Bs) (nv na : Int) (e : Ex) (hw : WF nv na e) (L : Int) (least : Nat) (h1 : 1 ≤ L) (hl : L = 8 - (least : Int)) : upto (pc vs e) L = shw vs e least := by
  unfold upto shw pc brk
  rcases lev_rank nv na e hw with h | ⟨h, hr⟩
  · by_cases hc : rank e < least
    · rw [if_pos (show L < (text vs e, lev e).2 by show L < lev e; omega), if_pos hc]
    · rw [if_neg (show ¬ L < (text vs e, lev e).2 by show ¬ L < lev e; omega), if_neg hc]
  · rw [if_neg (show ¬ L < (text vs e, lev e).2 by show ¬ L < lev e; omega), if_neg (by omega)]

theorem text_con (vs : List Bs) (n : Int) : itoa n = text vs (.con n) := by
  unfold itoa text pieces
  split
  · simp
  · rw [show n.toNat = n.natAbs by omega]; simp
theorem text_var (vs : List Bs) (k : Nat) (s : Bs) (h : vs[k]? = some s) : text vs (.var k) = s := by
  unfold text pieces; simp [List.getD_eq_getElem?_getD, h]
theorem text_arg (vs : List Bs) (k : Nat) : text vs (.arg k) = [36] ++ itoa (k : Int) := by
  unfold text pieces itoa; rw [if_neg (by omega)]; simp

theorem pieces_un (vs : List Bs) (o : Int) (a : Ex) : pieces vs (.un o a) = if o = 4 then (if plainCon a = true then [[45], [40]] ++ pieces vs a ++ [[41]] else [[45]] ++ wrap (rank a) 6 (pieces vs a)) else [[33]] ++ wrap (rank a) 6 (pieces vs a) := by
  rw [pieces]

theorem text_un (vs : List Bs) (nv na : Int) (o : Nat) (ho : o = 4 ∨ o = 5) (a : Ex) (hw : WF nv na a) :
    (o = 4 ∧ lev a = 0 ∧ text vs (.un (o : Int) a) = sg 4 ++ brk (text vs a)) ∨ ((o = 4 → lev a ≠ 0) ∧ text vs (.un (o : Int) a) = sg o ++ upto (pc vs a) 2) := by
  have hu := upto_shw vs nv na a hw 2 6 (by decide) (by decide)
  by_cases hc : o = 4 ∧ lev a = 0
  · left
    obtain ⟨rfl, h0⟩ := hc
    refine ⟨rfl, h0, ?_⟩
    have hp : plainCon a = true := by
      cases a with
      | con n =>
        rw [lev_con] at h0
        refine decide_eq_true ?_
        by_cases h : n < 0
        · rw [if_pos h] at h0; cases h0
        · omega
      | var => cases h0
      | arg => cases h0
      | un o2 a2 => rcases hw.1 with rfl | rfl <;> cases h0
      | bin o2 a2 b2 => exfalso; have h2 : lvl o2 = 0 := h0; unfold lvl at h2; (repeat' split at h2) <;> omega
      | ite => cases h0
    show (pieces vs (.un 4 a)).flatten = _
    rw [pieces_un, if_pos rfl, if_pos hp]
    unfold brk text
    simp [show sg 4 = [45] from rfl]
  · right
    refine ⟨fun h4 h0 => hc ⟨h4, h0⟩, ?_⟩
    rw [hu, ← shw_eq]
    show (pieces vs (.un (o : Int) a)).flatten = _
    rw [pieces_un]
    rcases ho with rfl | rfl
    · have hp : plainCon a = false := by
        cases a with
        | con n =>
          refine decide_eq_false (fun h => hc ⟨rfl, ?_⟩)
          rw [lev_con, if_neg (by omega)]
        | _ => rfl
      rw [if_pos (by decide), if_neg (by rw [hp]; decide)]
      simp [show sg 4 = [45] from rfl]
    · rw [if_neg (by decide)]
      simp [show sg 5 = [33] from rfl]

theorem text_two (vs : List Bs) (o : Nat) (ho : o = 9 ∨ o = 10) (a b : Ex) : text vs (.bin (o : Int) a b) = sg o ++ [40] ++ Lib.join ([pc vs a, pc vs b].map (·.1)) [44, 32] ++ [41] := by
  have hj : Lib.join ([pc vs a, pc vs b].map (·.1)) [44, 32] = text vs a ++ [44, 32] ++ text vs b := by
    simp [Lib.join, pc, List.intercalate]
  rw [hj]
  unfold text
  rcases ho with rfl | rfl
  · rw [pieces, if_pos (by decide)]; simp [show sg 9 = wmin from rfl]
  · rw [pieces, if_pos (by decide)]; simp [show sg 10 = wmax from rfl]

theorem text_three (vs : List Bs) (a b c : Ex) : text vs (.ite a b c) = sg 16 ++ [40] ++ Lib.join ([pc vs a, pc vs b, pc vs c].map (·.1)) [44, 32] ++ [41] := by
  have hj : Lib.join ([pc vs a, pc vs b, pc vs c].map (·.1)) [44, 32] = text vs a ++ [44, 32] ++ text vs b ++ [44, 32] ++ text vs c := by
    simp [Lib.join, pc, List.intercalate]
  rw [hj]
  unfold text
  rw [pieces]; simp [show sg 16 = wif from rfl]

theorem text_bin (vs : List Bs) (nv na : Int) (o : Nat) (ho : o = 6 ∨ o = 7 ∨ o = 8 ∨ o = 11 ∨ o = 12 ∨ o = 13 ∨ o = 14 ∨ o = 15) (a b : Ex) (ha : WF nv na a) (hb : WF nv na b) :
    text vs (.bin (o : Int) a b) = upto (pc vs a) (fst1 (o : Int)) ++ [32] ++ sg o ++ [32] ++ upto (pc vs b) (lvl (o : Int) - 1) := by
  have key : ∀ (L M : Int) (l m : Nat), 1 ≤ L → L = 8 - (l : Int) → 1 ≤ M → M = 8 - (m : Int) → upto (pc vs a) L ++ [32] ++ sg o ++ [32] ++ upto (pc vs b) M = (wrap (rank a) l (pieces vs a) ++ [[32], sg o, [32]] ++ wrap (rank b) m (pieces vs b)).flatten := by
    intro L M l m h1 h2 h3 h4
    rw [upto_shw vs nv na a ha L l h1 h2, upto_shw vs nv na b hb M m h3 h4, ← shw_eq, ← shw_eq]
    simp
  unfold text
  rcases ho with rfl | rfl | rfl | rfl | rfl | rfl | rfl | rfl
  · rw [key _ _ 4 5 (by decide) (by decide) (by decide) (by decide)]; rfl
  · rw [key _ _ 4 5 (by decide) (by decide) (by decide) (by decide)]; rfl
  · rw [key _ _ 5 6 (by decide) (by decide) (by decide) (by decide)]; rfl
  · rw [key _ _ 4 4 (by decide) (by decide) (by decide) (by decide)]; rfl
  · rw [key _ _ 4 4 (by decide) (by decide) (by decide) (by decide)]; rfl
  · rw [key _ _ 4 4 (by decide) (by decide) (by decide) (by decide)]; rfl
  · rw [key _ _ 2 3 (by decide) (by decide) (by decide) (by decide)]; rfl
  · rw [key _ _ 1 2 (by decide) (by decide) (by decide) (by decide)]; rfl
end Go.Proofs.YtfooiggedgcjcaaGreatDoor.I

namespace Go.Proofs.YtfooiggedgcjcaaGreatDoor.I
open Go Go.RowKit Go.Proofs.YtfooiggedgcjcaaGreatDoor.B Go.Proofs.YtfooiggedgcjcaaGreatDoor.K Go.Proofs.YtfooiggedgcjcaaGreatDoor.E
set_option linter.unusedVariables false

theorem push_row (vs : List Bs) (e : Ex) (st : List Ex) : (e :: st).reverse.map (pc vs) = st.reverse.map (pc vs) ++ [pc vs e] := by simp

theorem itoa_len (k : Nat) (h : k ≤ 9223372036854775807) : (itoa (k : Int)).length ≤ 1000 := by
  unfold itoa
  rw [if_neg (by omega)]
  have := dig_length63 (k : Int).toNat (by omega)
  omega

theorem step_any {w : World} {base bx : Nat} {v v1 : Value} (vs : List Bs) (na : Int) (st : List Ex) (i : In) (hna : na ≤ 9223372036854775807) (hr : right i vs.length na = true) (ht0 : 0 ≤ takes i.1) (ht : takes i.1 ≤ (st.length : Int))
    (hwf : ∀ e ∈ st, WF vs.length na e) (hlen : ∀ e ∈ st, (text vs e).length ≤ 35184372088832) (hst : st.length ≤ 1000) (hvs : Names w v1 vs) (hvl : vs.length ≤ 1000000) (hV : ∀ s ∈ vs, s.length ≤ 140737488355328) (hg : Glob w) (hbx : w.cell? ⟨bx, 0, none⟩ = some v1)
    (hrow : RowP w base v (st.reverse.map (pc vs))) (hbs : base ≤ w.heap.size) :
    Calls Tryz.prog 151 #[v, .agg #[.int .i64 i.1, .int .i64 i.2], .pointer (some ⟨bx, 0, none⟩)] w fun e w' => (∃ v', e = .returned v' ∧ RowP w' base v' ((push st i).reverse.map (pc vs))) ∧ Below base w w' := by
  obtain ⟨o, x⟩ := i
  simp only at ht0 ht
  have hrl : (st.reverse.map (pc vs)).length = st.length := by simp
  rcases right_cases (o, x) vs.length na hr with ⟨h1, h2⟩ | ⟨h1, h2, h3⟩ | ⟨h1, h2, h3⟩ | ⟨n1, n2, n3, h4⟩
  · simp only at h1 h2
    subst h1
    have hv := (isVal_iff x).1 h2
    rw [show push st (1, x) = .con x :: st from rfl, push_row]
    have := put_con (bx := bx) x (by omega) (by omega) hg hrow hbs (by omega)
    rw [show pc vs (.con x) = (itoa x, if x < 0 then 2 else 0) by unfold pc; rw [text_con, lev_con]]
    exact this
  · simp only at h1 h2 h3
    subst h1
    obtain ⟨k, rfl⟩ := Int.eq_ofNat_of_zero_le h2
    have hk : k < vs.length := by omega
    rw [show push st (2, (k : Int)) = .var k :: st from rfl, push_row]
    have := put_var (bx := bx) vs k vs[k] (List.getElem?_eq_getElem hk) hvs hvl hbx (hV _ (List.getElem_mem hk)) hrow hbs (by omega)
    rw [show pc vs (.var k) = (vs[k], 1) by unfold pc; rw [text_var vs k vs[k] (List.getElem?_eq_getElem hk)]; rfl]
    exact this
  · simp only at h1 h2 h3
    subst h1
    obtain ⟨k, rfl⟩ := Int.eq_ofNat_of_zero_le h2
    rw [show push st (3, (k : Int)) = .arg k :: st from rfl, push_row]
    have := put_arg (bx := bx) (k : Int) (by omega) (by omega) (itoa_len k (by omega)) hg hrow hbs (by omega)
    rw [show pc vs (.arg k) = ([36] ++ itoa (k : Int), 1) by unfold pc; rw [text_arg]; rfl]
    exact this
  · simp only at n1 n2 n3 h4
    subst h4
    rcases takes_is o with ⟨h, _⟩ | ⟨h, h5⟩ | ⟨h, h5⟩ | ⟨h, h5⟩ | ⟨_, h5⟩
    · omega
    · match st, ht, hwf, hlen, hrow, hrl, hst with
      | [], ht, _, _, _, _, _ => simp at ht; omega
      | a :: r, ht, hwf, hlen, hrow, hrl, hst =>
        obtain ⟨q, rfl⟩ := Int.eq_ofNat_of_zero_le (show 0 ≤ o by omega)
        have hq : q = 4 ∨ q = 5 := by omega
        have hwa := hwf a (by simp)
        have hla := hlen a (by simp)
        have hpush : push (a :: r) ((q : Int), 0) = .un (q : Int) a :: r := by rcases hq with rfl | rfl <;> rfl
        have hsplit : (a :: r).reverse.map (pc vs) = r.reverse.map (pc vs) ++ [pc vs a] := push_row vs a r
        rw [hsplit] at hrow hrl
        have hrl' : (r.reverse.map (pc vs) ++ [pc vs a]).length - 1 = (r.reverse.map (pc vs)).length := by simp
        have := put_op (bx := bx) q 1 (by omega) (by omega) (by rw [h5]; rfl) (text vs (.un (q : Int) a)) (fun W u hW hu => by
          rw [hrl', List.drop_left] at hu
          rcases text_un vs vs.length na q hq a hwa with ⟨rfl, h0, ht⟩ | ⟨h0, ht⟩
          · rw [ht]; exact together_paren (pc vs a) u W hW hu (by show (text vs a).length ≤ _; omega) h0
          · rw [ht]; exact together_un q hq (pc vs a) u W hW hu (by show (text vs a).length ≤ _; omega) h0) (by simp) hg hrow hbs (by rw [hrl]; omega)
        rw [hrl', List.take_left] at this
        rw [hpush, push_row]
        exact this
    · match st, ht, hwf, hlen, hrow, hrl, hst with
      | [], ht, _, _, _, _, _ => simp at ht; omega
      | [_], ht, _, _, _, _, _ => simp at ht; omega
      | b :: a :: r, ht, hwf, hlen, hrow, hrl, hst =>
        obtain ⟨q, rfl⟩ := Int.eq_ofNat_of_zero_le (show 0 ≤ o by omega)
        have hwa := hwf a (by simp)
        have hla := hlen a (by simp)
        have hwb := hwf b (by simp)
        have hlb := hlen b (by simp)
        have hpush : push (b :: a :: r) ((q : Int), 0) = .bin (q : Int) a b :: r := by
          unfold push
          rw [if_neg (by show ¬ takes (q : Int) = 0; omega), if_neg (by show ¬ takes (q : Int) = 1; omega), if_pos (show takes (q : Int) = 2 from h5)]
        have hsplit : (b :: a :: r).reverse.map (pc vs) = r.reverse.map (pc vs) ++ [pc vs a, pc vs b] := by simp
        rw [hsplit] at hrow hrl
        have hrl' : (r.reverse.map (pc vs) ++ [pc vs a, pc vs b]).length - 2 = (r.reverse.map (pc vs)).length := by simp
        have := put_op (bx := bx) q 2 (by omega) (by omega) (by rw [h5]; rfl) (text vs (.bin (q : Int) a b)) (fun W u hW hu => by
          rw [hrl', List.drop_left] at hu
          by_cases hm : q = 9 ∨ q = 10
          · rw [text_two vs q hm]
            exact together_call q (by omega) [pc vs a, pc vs b] u W hW hu (by simp) (by simp) (by
              simp only [List.map_cons, List.map_nil, Lib.join, List.intercalate, pc]
              simp
              omega)
          · rw [text_bin vs vs.length na q (by omega) a b hwa hwb]
            exact together_bin q (by omega) (pc vs a) (pc vs b) u W hW hu (by show (text vs a).length ≤ _; omega) (by show (text vs b).length ≤ _; omega)) (by simp) hg hrow hbs (by rw [hrl]; omega)
        rw [hrl', List.take_left] at this
        rw [hpush, push_row]
        exact this
    · subst h
      match st, ht, hwf, hlen, hrow, hrl, hst with
      | [], ht, _, _, _, _, _ => simp at ht; omega
      | [_], ht, _, _, _, _, _ => simp at ht; omega
      | [_, _], ht, _, _, _, _, _ => simp at ht; omega
      | c :: b :: a :: r, ht, hwf, hlen, hrow, hrl, hst =>
        have hla := hlen a (by simp)
        have hlb := hlen b (by simp)
        have hlc := hlen c (by simp)
        have hpush : push (c :: b :: a :: r) (16, 0) = .ite a b c :: r := rfl
        have hsplit : (c :: b :: a :: r).reverse.map (pc vs) = r.reverse.map (pc vs) ++ [pc vs a, pc vs b, pc vs c] := by simp
        rw [hsplit] at hrow hrl
        have hrl' : (r.reverse.map (pc vs) ++ [pc vs a, pc vs b, pc vs c]).length - 3 = (r.reverse.map (pc vs)).length := by simp
        have := put_op (bx := bx) 16 3 (by omega) (by omega) (by decide) (text vs (.ite a b c)) (fun W u hW hu => by
          rw [hrl', List.drop_left] at hu
          rw [text_three]
          exact together_call 16 (by omega) [pc vs a, pc vs b, pc vs c] u W hW hu (by simp) (by simp) (by
            simp only [List.map_cons, List.map_nil, Lib.join, List.intercalate, pc]
            simp
            omega)) (by simp) hg hrow hbs (by rw [hrl]; omega)
        rw [hrl', List.take_left] at this
        rw [hpush, push_row]
        exact this
    · omega
end Go.Proofs.YtfooiggedgcjcaaGreatDoor.I

namespace Go.Proofs.YtfooiggedgcjcaaGreatDoor.E
open Go
set_option linter.unusedVariables false

theorem crun_at (nv na : Int) (code : List In) (k : Nat) (i : In) (hi : code[k]? = some i) (h z : Int) (hc : crun nv na (code.drop k) h = .ok z) :
    0 ≤ takes i.1 ∧ right i nv na = true ∧ takes i.1 ≤ h ∧ crun nv na (code.drop (k + 1)) (h - takes i.1 + 1) = .ok z := by
  obtain ⟨hk, e⟩ := List.getElem?_eq_some_iff.1 hi
  rw [List.drop_eq_getElem_cons hk, e] at hc
  simp only [crun, cstep] at hc
  split at hc
  · cases hc
  · split at hc
    · cases hc
    · split at hc
      · cases hc
      · rename_i h1 h2 h3
        exact ⟨by omega, by simpa using h2, by omega, hc⟩
end Go.Proofs.YtfooiggedgcjcaaGreatDoor.E

namespace Go.Proofs.YtfooiggedgcjcaaGreatDoor.I
open Go Go.RowKit Go.Proofs.YtfooiggedgcjcaaGreatDoor.B Go.Proofs.YtfooiggedgcjcaaGreatDoor.K Go.Proofs.YtfooiggedgcjcaaGreatDoor.E
set_option linter.unusedVariables false

theorem putter_any (v1 : Value) (h1 : ∃ a n c, v1 = .slice a n c) (w : World) : Calls Tryz.prog 124 #[v1] w fun e w' => e = .returned (.func (.func 151) #[] #[.pointer (some ⟨w.heap.size, 0, none⟩)]) ∧ w' = w.alloc (.cells #[v1] 22) := by
  obtain ⟨a, n, c, rfl⟩ := h1
  go_enter Tryz.func124, Tryz.ntmps124
  go_wp2_with fail
  go_ret
  exact ⟨rfl, rfl⟩

theorem push_ok (nv na : Int) (st : List Ex) (i : In) (hr : right i nv na = true) (ht0 : 0 ≤ takes i.1) (ht : takes i.1 ≤ (st.length : Int)) (hwf : ∀ e ∈ st, WF nv na e) :
    (∀ e ∈ push st i, WF nv na e) ∧ flat (push st i) = flat st ++ [i] ∧ ((push st i).length : Int) = (st.length : Int) - takes i.1 + 1 := by
  obtain ⟨o, x⟩ := i
  simp only at ht0 ht
  have key : ∀ (e : Ex) (r : List Ex), push st (o, x) = e :: r → WF nv na e → (∀ e ∈ r, WF nv na e) → flat (e :: r) = flat st ++ [(o, x)] → ((r.length : Nat) : Int) = st.length - takes o →
      (∀ e ∈ push st (o, x), WF nv na e) ∧ flat (push st (o, x)) = flat st ++ [(o, x)] ∧ ((push st (o, x)).length : Int) = (st.length : Int) - takes o + 1 := by
    intro e r h1 h2 h3 h4 h5
    rw [h1]
    refine ⟨fun e' he => ?_, h4, by rw [List.length_cons]; omega⟩
    rcases List.mem_cons.1 he with rfl | h
    · exact h2
    · exact h3 e' h
  rcases right_cases (o, x) nv na hr with ⟨h1, h2⟩ | ⟨h1, h2, h3⟩ | ⟨h1, h2, h3⟩ | ⟨n1, n2, n3, h4⟩
  · simp only at h1 h2; subst h1
    exact key (.con x) st rfl h2 hwf (by rw [flat_cons]; rfl) (by rw [show takes 1 = 0 from by decide]; omega)
  · simp only at h1 h2 h3; subst h1
    obtain ⟨k, rfl⟩ := Int.eq_ofNat_of_zero_le h2
    exact key (.var k) st rfl h3 hwf (by rw [flat_cons]; rfl) (by rw [show takes 2 = 0 from by decide]; omega)
  · simp only at h1 h2 h3; subst h1
    obtain ⟨k, rfl⟩ := Int.eq_ofNat_of_zero_le h2
    exact key (.arg k) st rfl h3 hwf (by rw [flat_cons]; rfl) (by rw [show takes 3 = 0 from by decide]; omega)
  · simp only at n1 n2 n3 h4; subst h4
    rcases takes_is o with ⟨h, _⟩ | ⟨h, h5⟩ | ⟨h, h5⟩ | ⟨h, h5⟩ | ⟨_, h5⟩
    · omega
    · match st, ht, hwf with
      | [], ht, _ => simp at ht; omega
      | a :: r, ht, hwf =>
        exact key (.un o a) r (by rcases h with rfl | rfl <;> rfl) ⟨h, hwf a (by simp)⟩ (fun e he => hwf e (by simp [he])) (by rw [flat_cons, flat_cons]; simp [codeOf]) (by rw [h5, List.length_cons]; omega)
    · match st, ht, hwf with
      | [], ht, _ => simp at ht; omega
      | [_], ht, _ => simp at ht; omega
      | b :: a :: r, ht, hwf =>
        exact key (.bin o a b) r (by
          unfold push
          rw [if_neg (by show ¬ takes o = 0; omega), if_neg (by show ¬ takes o = 1; omega), if_pos (show takes o = 2 from h5)]) ⟨h5, hwf a (by simp), hwf b (by simp)⟩ (fun e he => hwf e (by simp [he])) (by rw [flat_cons, flat_cons, flat_cons]; simp [codeOf]) (by rw [h5]; simp only [List.length_cons]; omega)
    · subst h
      match st, ht, hwf with
      | [], ht, _ => simp at ht; omega
      | [_], ht, _ => simp at ht; omega
      | [_, _], ht, _ => simp at ht; omega
      | c :: b :: a :: r, ht, hwf =>
        exact key (.ite a b c) r rfl ⟨hwf a (by simp), hwf b (by simp), hwf c (by simp)⟩ (fun e he => hwf e (by simp [he])) (by rw [flat_cons, flat_cons, flat_cons, flat_cons]; simp [codeOf]) (by rw [h5]; simp only [List.length_cons]; omega)
    · omega

theorem flat_mem (st : List Ex) (e : Ex) (h : e ∈ st) : (codeOf e).length ≤ (flat st).length := by
  induction st with
  | nil => cases h
  | cons a r ih =>
    rw [flat_cons, List.length_append]
    rcases List.mem_cons.1 h with rfl | h
    · omega
    · have := ih h; omega

theorem ret_si' {a a' : ByteArray} {b b' : Int} (h : a = a') (h' : b = b') : Ending.returned (.tuple #[.string a, .int .i64 b]) = .returned (.tuple #[.string a', .int .i64 b']) := by rw [h, h']

set_option maxHeartbeats 4000000 in
set_option maxRecDepth 100000 in
theorem show_any (code : List In) (vs : List Bs) (na : Int) (v v1 : Value) (w : World) (hg : Glob w) (hs : SlI w v code) (hn : Names w v1 vs) (hl : code.length ≤ 9223372036854775807) (hvl : vs.length ≤ 1000000) (hna : na ≤ 9223372036854775807) (hV : ∀ s ∈ vs, s.length ≤ 1099511627776) :
    Calls Tryz.prog 96 #[v, v1, .int .i64 na] w fun e w' => e = .returned (.tuple #[sv (showOf vs na code).1, .int .i64 (showOf vs na code).2]) ∧ Below w.heap.size w w' := by
  have HS := Lib.hid hs
  have HNM := Lib.hid hn
  have HG := Lib.hid hg
  have HV := Lib.hid hV
  have HVL := Lib.hid hvl
  have HNA := Lib.hid hna
  obtain ⟨a, cap, rfl, -⟩ := hs
  obtain ⟨a1, cap1, rfl⟩ : ∃ a1 cap1, v1 = .slice a1 vs.length cap1 := by
    obtain ⟨a1, cap1, rfl, _⟩ := hn
    rw [List.length_map]
    exact ⟨a1, cap1, rfl⟩
  have hck := check_any code (.slice a code.length cap) vs.length na w HS.out hl
  obtain ⟨⟨p, er⟩, hE⟩ : ∃ t, check code vs.length na = t := ⟨_, rfl⟩
  have her : (check code vs.length na).2 = er := by rw [hE]
  rw [hE] at hck
  have HCK := Lib.hid hck
  clear hck hE hn hg hV hvl hna
  by_cases he : er = 0
  · subst he
    have hsh := showOf_good vs na code her
    obtain ⟨hw, hcode⟩ := exOf_is code vs.length na her
    obtain ⟨_, _, h31, hcr⟩ := check_ok code _ _ her
    have hall : code.foldl push [] = [exOf code] := by
      have h := push_code vs.length na (exOf code) hw []
      rw [hcode] at h
      exact h
    rw [hsh]
    obtain ⟨E0, hE0⟩ : ∃ E0, exOf code = E0 := ⟨_, rfl⟩
    rw [hE0] at hall ⊢
    have HALL := Lib.hid hall
    have HCR := Lib.hid hcr
    have HPT := Lib.hid (fun W => putter_any (.slice a1 vs.length cap1) ⟨_, _, _, rfl⟩ W)
    obtain ⟨n, hN⟩ : ∃ n, code.length = n := ⟨_, rfl⟩
    obtain ⟨nv, hNV⟩ : ∃ nv, vs.length = nv := ⟨_, rfl⟩
    rw [hN] at HCK h31 HS ⊢
    rw [hNV] at HCK HPT HNM ⊢
    have HN := Lib.hid hN
    have HNV := Lib.hid hNV
    have HL := Lib.hid h31
    clear hsh hw hcode hcr her hall hE0 hN hNV h31 hl
    unfold sv
    go_enter Tryz.func96, Tryz.ntmps96
    go_wp2_with (first | (go_at_call 119; refine HCK.out.mono ?_; rintro _ w1 ⟨rfl, hb1⟩; have HB1 := Lib.hid hb1; clear hb1) | (go_at_call 124; refine (HPT.out _).mono ?_; rintro _ w2 ⟨rfl, hw2⟩; have HW2 := Lib.hid hw2; clear hw2))
    have hw2 := HW2.out
    have hb2 : Below w.heap.size w w2 := by rw [hw2]; exact HB1.out.alloc HB1.out.size _
    have hbx : w2.cell? ⟨w1.heap.size, 0, none⟩ = some (.slice a1 nv cap1) := by
      rw [hw2, cell_of_row _ _ _ _ _ _ (heap_alloc_at w1 _)]; rfl
    have hlt2 : w1.heap.size < w2.heap.size := by rw [hw2]; simp
    have HB2 := Lib.hid hb2
    have HBX := Lib.hid hbx
    have HLT := Lib.hid hlt2
    clear hw2 hb2 hbx hlt2 HCK HPT HB1 HW2
    go_loopw [11, 29] (fun l k wr => ∃ (K : Nat) (st : List Ex), k = .int .i64 (K : Int) ∧ K ≤ n ∧ Hid (RowP wr w2.heap.size l (st.reverse.map (pc vs))) ∧ Hid (st = (code.take K).foldl push [] ∧ flat st = code.take K ∧ st.length ≤ K) ∧ Hid (∀ e ∈ st, WF vs.length na e) ∧ Hid (crun vs.length na (code.drop K) (st.length : Nat) = .ok 1) ∧ Hid (Below w2.heap.size w2 wr)) (fun _ k _ => n - (intOf k).toNat)
    case atStart => exact ⟨0, [], rfl, Nat.zero_le _, Lib.hid (World.ownsRow_nil _ _ _ _), Lib.hid ⟨rfl, rfl, Nat.le_refl _⟩, Lib.hid (fun e h => by cases h), HCR, Lib.hid (Below.refl _ _)⟩
    case round =>
      obtain ⟨K, st, rfl, hK, HRW, HST, HWF, HC, HBE⟩ := hrel
      by_cases hlt : K < n
      · obtain ⟨⟨o, x⟩, hi⟩ : ∃ i, code[K]? = some i := ⟨_, List.getElem?_eq_getElem (by rw [HN.out]; exact hlt)⟩
        obtain ⟨h1, h2, h3, h4⟩ := crun_at _ _ _ _ _ hi _ _ HC.out
        obtain ⟨q1, q2, q3⟩ := push_ok vs.length na st (o, x) h2 h1 h3 HWF.out
        have hbw : Below w.heap.size w _ := HB2.out.trans (HBE.out.mono HB2.out.size)
        obtain ⟨b, off, rfl, k0, k1⟩ := (HS.out.below hbw).at hi
        have hltI : (K : Int) < (n : Int) := by omega
        have hwK : IntKind.i64.wrap ((K : Int) + 1) = (K : Int) + 1 := IntWalk.i64_in _ (by have := HL.out; omega)
        obtain ⟨X, hX⟩ : ∃ X, (Obj.cells #[.int .i64 o, .int .i64 x] 83 (0, 0)) = X := ⟨_, rfl⟩
        have hlen : ∀ e ∈ st, (text vs e).length ≤ 35184372088832 := by
          intro e he
          have t1 := text_le vs 1099511627776 vs.length na HNA.out HV.out e (HWF.out e he)
          have t2 := flat_mem st e he
          rw [HST.out.2.1, List.length_take] at t2
          have t3 := HL.out
          have t4 : (codeOf e).length ≤ 31 := by omega
          have t5 := Nat.mul_le_mul_left (1099511627776 + 40) t4
          omega
        have hal := (Below.refl wr.heap.size wr).alloc (Nat.le_refl _) X
        have hbw2 : Below w.heap.size w (wr.alloc X) := hbw.trans (hal.mono hbw.size)
        have hgw := HG.out.below hbw2
        have hbxw : (wr.alloc X).cell? ⟨w1.heap.size, 0, none⟩ = some (.slice a1 nv cap1) :=
          cell_kept hal (((bcell HBE.out).1 _ _ HLT.out).trans HBX.out)
        have HSTEP := Lib.hid (step_any (base := w2.heap.size) (bx := w1.heap.size) vs na st (o, x) HNA.out h2 h1 h3 HWF.out hlen (by have := HST.out.2.2; have := HL.out; omega) (Sl.below HNM.out hbw2) HVL.out (fun s hs => by have := HV.out s hs; omega) hgw hbxw (HRW.out.below hal) (by have := HBE.out.size; simp; omega))
        have HNEXT := Lib.hid (show push st (o, x) = (code.take (K + 1)).foldl push [] ∧ flat (push st (o, x)) = code.take (K + 1) ∧ (push st (o, x)).length ≤ K + 1 by
          refine ⟨by rw [List.take_add_one, hi, List.foldl_append, ← HST.out.1]; rfl, by rw [q2, HST.out.2.1, List.take_add_one, hi]; rfl, ?_⟩
          have := HST.out.2.2
          omega)
        have HWF2 := Lib.hid q1
        have HC2 := Lib.hid (show crun vs.length na (code.drop (K + 1)) ((push st (o, x)).length : Nat) = .ok 1 by rw [q3]; exact h4)
        have HBAL := Lib.hid (show Below w2.heap.size w2 (wr.alloc X) from HBE.out.alloc HBE.out.size X)
        subst hX
        clear hi h1 h2 h3 h4 q1 q2 q3 hlen hal hbw2 hgw hbxw hbw
        go_wp2_with (go_at_call 151; refine HSTEP.out.mono ?_; rintro _ w5 ⟨⟨v5, rfl, hr5⟩, hb5⟩; have HR5 := Lib.hid hr5; have HB5 := Lib.hid (HBAL.out.trans hb5); clear hr5 hb5)
        go_roundw
        case rel => exact ⟨K + 1, push st (o, x), by go_num, by omega, HR5, HNEXT, HWF2, HC2, HB5⟩
        case measure => simp [intOf]; omega
      · have hltI : ¬ (K : Int) < (n : Int) := by omega
        obtain rfl : K = n := by omega
        have hst := HST.out.1
        rw [List.take_of_length_le (by rw [HN.out]; exact Nat.le_refl _), HALL.out] at hst
        subst hst
        obtain ⟨g, cp, hv, _, _, _, _, hcells⟩ := row_form HRW.out (by simp)
        obtain ⟨k0, _⟩ := hcells 0 (pc vs E0) rfl
        rw [show ([E0].reverse.map (pc vs)).length = 1 from rfl] at hv
        subst hv
        rw [Nat.zero_mul] at k0
        have k0' : wr.cell? ⟨g, 0, none⟩ = some (.string (str (text vs E0))) := k0
        clear k0 hcells HRW HST HWF HC
        go_wp2_with fail
        go_ret2
        exact ⟨rfl, HB2.out.trans (HBE.out.mono HB2.out.size)⟩
  · have hsh := showOf_bad vs na code (by rw [her]; exact he)
    rw [her] at hsh
    rw [hsh]
    have be : (er != 0) = true := by simp [he]
    clear he hsh her
    unfold sv
    go_enter Tryz.func96, Tryz.ntmps96
    go_wp2_with (go_at_call 119; refine HCK.out.mono ?_; rintro _ w1 ⟨rfl, hb1⟩; have HB1 := Lib.hid hb1; clear hb1)
    go_ret2
    exact ⟨rfl, HB1.out⟩
end Go.Proofs.YtfooiggedgcjcaaGreatDoor.I

namespace Go.Proofs.YtfooiggedgcjcaaGreatDoor.T
open Go Go.RowKit Go.Proofs.YtfooiggedgcjcaaGreatDoor.B Go.Proofs.YtfooiggedgcjcaaGreatDoor.K Go.Proofs.YtfooiggedgcjcaaGreatDoor.E Go.Proofs.YtfooiggedgcjcaaGreatDoor.R
set_option linter.unusedVariables false

theorem join_nil (a : Option Addr) (cap : Nat) (sep : ByteArray) (w : World) : Calls Tryz.prog 23 #[.slice a 0 cap, .string sep] w fun e w' => e = .returned (sv []) ∧ Below w.heap.size w w' := by
  go_enter Tryz.func23, Tryz.ntmps23
  go_wp2_with fail
  go_ret
  exact ⟨rfl, Below.refl _ _⟩
theorem str_all (xs : List Bs) : (xs.map str).map (·.data.toList) = xs := by
  rw [List.map_map]
  have : (((·.data.toList) : ByteArray → Bs) ∘ str) = id := by funext x; exact str_data x
  rw [this, List.map_id]
theorem join_any (a : Option Addr) (cap : Nat) (xs : List Bs) (sep : Bs) (w : World) (hs : Sl w (.slice a xs.length cap) (xs.map sv)) (hcap : xs.length ≤ cap) (hn : xs.length ≤ 140737488355328) (hl : (Lib.join xs sep).length ≤ 140737488355328) :
    Calls Tryz.prog 23 #[.slice a xs.length cap, sv sep] w fun e w' => e = .returned (sv (Lib.join xs sep)) ∧ Below w.heap.size w w' := by
  cases xs with
  | nil => exact join_nil a cap (str sep) w
  | cons x r =>
    obtain ⟨b, off, rfl, h0⟩ := hs.at (u := sv x) (j := 0) rfl
    have h := S.strings_Join b off cap ((x :: r).map str) (str sep) w (fun j y hy => by
      rw [List.getElem?_map] at hy
      obtain ⟨z, hz, rfl⟩ := Option.map_eq_some_iff.1 hy
      obtain ⟨b', off', e, hc⟩ := hs.at (u := sv z) (j := j) (by rw [List.getElem?_map, hz]; rfl)
      cases e
      exact hc) (World.block_lt_of_cell? w _ h0) (by rw [List.length_map]; exact hn) (by rw [List.length_map]; exact hcap) (by rw [str_all, str_data]; exact hl)
    rw [str_all, str_data, List.length_map] at h
    exact h

/-- The boxes of a table and of a rule. -/
structure Bx (w : World) (bt br : Nat) (s x n r nm ar f g p : Value) : Prop where
  tb : w.heap[bt]? = some (.cells #[s, x, n, r] 26 (0, 0))
  rl : w.heap[br]? = some (.cells #[nm, ar, f, g, p] 58 (0, 0))

set_option maxRecDepth 100000 in
/-- A rule's expression as a text. -/
theorem shower1_any {w : World} {bt br : Nat} {s x n r nm f g p : Value} {args : Int} (hb : Bx w bt br s x n r nm (.int .i64 args) f g p) (vs : List Bs) (hx : I.Names w x vs) (hg : I.Glob w) (hvl : vs.length ≤ 1000000) (hna : args ≤ 9223372036854775807) (hV : ∀ s ∈ vs, s.length ≤ 1099511627776)
    (v : Value) (code : List In) (hc : SlI w v code) (hl : code.length ≤ 9223372036854775807) :
    Calls Tryz.prog 95 #[v, .pointer (some ⟨bt, 0, none⟩), .pointer (some ⟨br, 0, none⟩)] w fun z w' => z = .returned (sv (I.showOf vs args code).1) ∧ Below w.heap.size w w' := by
  have HS := Lib.hid (I.show_any code vs args v x w hg hc hx hl hvl hna hV)
  have c1 : w.cell? ⟨bt, 1, none⟩ = some x := by rw [cell_of_row _ _ _ _ _ _ hb.tb]; rfl
  have c2 : w.cell? ⟨br, 1, none⟩ = some (.int .i64 args) := by rw [cell_of_row _ _ _ _ _ _ hb.rl]; rfl
  obtain ⟨ac, cc, rfl, -⟩ := hc
  obtain ⟨ax, cx, rfl, -⟩ := hx
  obtain ⟨lx, hlx⟩ : ∃ l, (vs.map sv).length = l := ⟨_, rfl⟩
  rw [hlx] at HS c1
  obtain ⟨lc, hlc⟩ : ∃ l, code.length = l := ⟨_, rfl⟩
  rw [hlc] at HS ⊢
  obtain ⟨a1, ha1⟩ : ∃ a, (I.showOf vs args code).1 = a := ⟨_, rfl⟩
  obtain ⟨a2, ha2⟩ : ∃ a, (I.showOf vs args code).2 = a := ⟨_, rfl⟩
  rw [ha1, ha2] at HS
  rw [ha1]
  unfold sv at HS ⊢
  clear hb hg hvl hna hV hl ha1 ha2 hlx hlc
  go_enter Tryz.func95, Tryz.ntmps95
  go_wp2_with (go_at_call 96; refine HS.out.mono ?_; rintro _ w1 ⟨rfl, hb1⟩; have HB1 := Lib.hid hb1; clear hb1)
  go_ret
  exact ⟨rfl, HB1.out⟩

/-- What makes it. -/
theorem shower_any (w : World) (s x n r nm ar f g p : Value) :
    Calls Tryz.prog 51 #[.agg #[s, x, n, r], .agg #[nm, ar, f, g, p]] w fun z w' => z = .returned (.func (.func 95) #[] #[.pointer (some ⟨w.heap.size, 0, none⟩), .pointer (some ⟨w.heap.size + 1, 0, none⟩)]) ∧
      w' = (w.alloc (.cells #[s, x, n, r] 26)).alloc (.cells #[nm, ar, f, g, p] 58) := by
  go_enter Tryz.func51, Tryz.ntmps51
  go_wp2_with fail
  go_ret
  exact ⟨rfl, rfl⟩
end Go.Proofs.YtfooiggedgcjcaaGreatDoor.T

namespace Go.Proofs.YtfooiggedgcjcaaGreatDoor.T
open Go Go.RowKit Go.Proofs.YtfooiggedgcjcaaGreatDoor.B Go.Proofs.YtfooiggedgcjcaaGreatDoor.K Go.Proofs.YtfooiggedgcjcaaGreatDoor.E Go.Proofs.YtfooiggedgcjcaaGreatDoor.R
set_option linter.unusedVariables false

theorem grown_al (w : World) (o : Obj) : Below w.heap.size w (w.alloc o) := (Below.refl _ _).alloc (Nat.le_refl _) _
theorem join_behind (x : Bs) (l : List Bs) : Lib.join (x :: l) [32] = x ++ behind l := by
  rw [Lib.join_cons]
  unfold Lib.joinTail behind
  rw [List.flatMap_def]
  rfl
theorem row_built (w : World) (base n : Nat) (xs : List Value) (T : TypeId) (hb : base ≤ w.heap.size) (hn : xs.length = n) (hm : n ≤ maxLen) : (w.alloc (.cells xs.toArray T)).ownsRow base T 1 (.slice (some ⟨w.heap.size, 0, none⟩) n n) n xs :=
  ⟨by omega, Or.inr ⟨w.heap.size, n, xs.toArray, rfl, hb, heap_alloc_at w _, Nat.le_refl _, hm, by simp [hn], by rw [Nat.mul_one, ← hn, List.take_length]⟩⟩

/-- Words that are put together: the row, the boxes. -/
structure HdJ (w : World) (s x n r nm ar f g p : Value) (rows : List Bs) (v : Value) (wr : World) : Prop where
  own : wr.ownsRow (w.heap.size + 1 + 1) 9 1 v rows.length (rows.map sv)
  bel : Below w.heap.size w wr
  bx : Bx wr w.heap.size (w.heap.size + 1) s x n r nm ar f g p

section
variable {w : World} {s x n r nm ar f g p : Value} {rows : List Bs} {v : Value} {wr w2 : World}
theorem Bx.below {w w' : World} {bt br : Nat} (h : Bx w bt br s x n r nm ar f g p) (hb : Below w.heap.size w w') : Bx w' bt br s x n r nm ar f g p :=
  ⟨(Chg.of (S := fun _ => False) hb).heap h.tb (fun h => h), (Chg.of (S := fun _ => False) hb).heap h.rl (fun h => h)⟩
theorem HdJ.push (h : HdJ w s x n r nm ar f g p rows v wr) (y : Bs) {v' : Value} (a : App (w.heap.size + 1) wr w2 v v' 9 1 (rows.length + 1) (rows.map sv ++ [sv y])) : HdJ w s x n r nm ar f g p (rows ++ [y]) v' w2 := by
  have hlt : ∀ k, v.ownBlock = some k → w.heap.size + 2 ≤ k := fun k hk => (own_block_lt h.own hk).1
  refine ⟨?_, h.bel.trans (a.chg.below (fun k hk => by have := hlt k hk; omega) h.bel.size), a.chg.heap h.bx.tb (fun e => by have := hlt _ e; omega), a.chg.heap h.bx.rl (fun e => by have := hlt _ e; omega)⟩
  rw [List.length_append, List.map_append]
  exact a.own
theorem HdJ.grow (h : HdJ w s x n r nm ar f g p rows v wr) (hb : Below wr.heap.size wr w2) : HdJ w s x n r nm ar f g p rows v w2 :=
  ⟨own_kept h.own hb, h.bel.trans (hb.mono h.bel.size), h.bx.below hb⟩
theorem HdJ.size (h : HdJ w s x n r nm ar f g p rows v wr) : w.heap.size + 1 < wr.heap.size := (Array.getElem?_eq_some_iff.1 h.bx.rl).1
theorem bx_new (w : World) : Bx ((w.alloc (.cells #[s, x, n, r] 26)).alloc (.cells #[nm, ar, f, g, p] 58)) w.heap.size (w.heap.size + 1) s x n r nm ar f g p := by
  have h1 : (w.alloc (.cells #[s, x, n, r] 26)).heap.size = w.heap.size + 1 := by simp
  refine ⟨(Chg.alloc (S := fun _ => False) _ _).heap (heap_alloc_at w _) (fun h => h), ?_⟩
  have := heap_alloc_at (w.alloc (.cells #[s, x, n, r] 26)) (.cells #[nm, ar, f, g, p] 58)
  rw [h1] at this
  exact this
end

def headWords (states : List Bs) (q : Rl) : List Bs := wRule :: q.name :: num q.args :: (if q.from_.isEmpty then [] else wFrom :: q.from_.map (at_ states))
def HdMid (w : World) (s x n r nm ar f g p : Value) (rows : List Bs) (v : Value) (wx : World) : Prop := HdJ w s x n r nm ar f g p rows v wx

set_option maxHeartbeats 4000000 in
set_option maxRecDepth 100000 in
theorem head_any (w : World) (s x n r f g p : Value) (states : List Bs) (q : Rl) (hg : I.Glob w) (hs : SlB w s states) (hf : SlN w f q.from_) (hq : ∀ y ∈ q.from_, 0 ≤ y ∧ y < states.length) (hfl : q.from_.length ≤ 1000000) (hsl : states.length ≤ 1000000) (ha : -9223372036854775808 ≤ q.args ∧ q.args ≤ 9223372036854775807) (hjl : (Lib.join (headWords states q) [32]).length ≤ 140737488355328) :
    Calls Tryz.prog 52 #[.agg #[s, x, n, r], .agg #[sv q.name, .int .i64 q.args, f, g, p]] w fun z w' => z = .returned (sv (Lib.join (headWords states q) [32])) ∧ Below w.heap.size w w' := by
  obtain ⟨W2, hW2⟩ : ∃ W, (w.alloc (.cells #[s, x, n, r] 26)).alloc (.cells #[sv q.name, .int .i64 q.args, f, g, p] 58) = W := ⟨_, rfl⟩
  have hbx : Bx W2 w.heap.size (w.heap.size + 1) s x n r (sv q.name) (.int .i64 q.args) f g p := by rw [← hW2]; exact bx_new w
  have hb2 : Below w.heap.size w W2 := by rw [← hW2]; exact (grown_al w _).trans ((grown_al _ _).mono (grown_al w _).size)
  have c0 : W2.cell? ⟨w.heap.size + 1, 0, none⟩ = some (sv q.name) := by rw [cell_of_row _ _ _ _ _ _ hbx.rl]; rfl
  have c1 : W2.cell? ⟨w.heap.size + 1, 1, none⟩ = some (.int .i64 q.args) := by rw [cell_of_row _ _ _ _ _ _ hbx.rl]; rfl
  have HI := Lib.hid (fun W hb => I.itoa_any q.args ha.1 ha.2 W (hg.below (w' := W) hb))
  have HBX := Lib.hid hbx
  have HB2 := Lib.hid hb2
  have hsz : W2.heap.size = w.heap.size + 1 + 1 := by rw [← hW2]; simp
  have HSZ := Lib.hid hsz
  obtain ⟨af, kf, hfe, hfc⟩ := hf
  rw [List.length_map] at hfe
  subst hfe
  obtain ⟨aS, ks, hse, hsc⟩ := hs
  rw [List.length_map] at hse
  subst hse
  have HFC := Lib.hid hfc
  have HSC := Lib.hid hsc
  have HQ := Lib.hid (And.intro hq (And.intro hfl hsl))
  obtain ⟨A, hA⟩ : ∃ A, I.itoa q.args = A := ⟨_, rfl⟩
  rw [hA] at HI
  have HA := Lib.hid (show num q.args = A by rw [← itoa_num]; exact hA)
  obtain ⟨nf, hnf⟩ : ∃ k, q.from_.length = k := ⟨_, rfl⟩
  obtain ⟨ns, hns⟩ : ∃ k, states.length = k := ⟨_, rfl⟩
  have HNF := Lib.hid (And.intro hnf hns)
  obtain ⟨nm, hnm⟩ : ∃ k, q.name = k := ⟨_, rfl⟩
  have HNM := Lib.hid hnm
  obtain ⟨ar, har⟩ : ∃ k, q.args = k := ⟨_, rfl⟩
  have HJL := Lib.hid hjl
  have hW3 := hW2
  rw [hnf, hns, hnm, har] at hW3 ⊢
  rw [hnf, hns, hnm, har] at HBX
  rw [hnm] at c0
  rw [har] at c1 HI
  unfold sv at c0 HI hW3 ⊢
  clear hg ha hq hfl hsl hjl hbx hb2 hsz hfc hsc hA hnf hns hnm har hW2
  go_enter Tryz.func52, Tryz.ntmps52
  go_upto_region 1 with fail
  clear hW3
  go_cut [5] from 8 to 13 (fun s5 wx => HdMid w (.slice aS ns ks) x n r (sv nm) (.int .i64 ar) (.slice af nf kf) g p [wRule, nm, A] s5 wx)
  case first =>
    have h2w := HSZ.out
    go_region_law (go_simp; go_at_call 50; refine (HI.out _ (HB2.out.drew)).mono ?_; rintro _ w3 ⟨rfl, hb3'⟩; have hb3 : Below W2.heap.size W2 w3 := ((Below.refl W2.heap.size W2).drew).trans hb3'; clear hb3'; have HB3 := Lib.hid hb3; have c03 := kept_cell hb3 c0; have c13 := kept_cell hb3 c1; clear hb3)
    all_goals
      clear c03 c13
      go_wp2_with fail
      go_meet
      have hz3 : Below w.heap.size w w3 := HB2.out.trans (HB3.out.mono HB2.out.size)
      have h3 := HB3.out.size
      exact ⟨row_built w3 _ 3 [sv wRule, sv nm, sv A] _ (by omega) rfl (by decide), hz3.trans ((grown_al w3 _).mono hz3.size), (HBX.out.below HB3.out).below (grown_al w3 _)⟩
  case rest =>
    obtain ⟨W4, rfl⟩ : ∃ W : World, W = wc := ⟨_, rfl⟩
    have HJ := Lib.hid (show HdJ w _ _ _ _ _ _ _ _ _ _ _ _ from hcut)
    obtain ⟨a5, k5, rfl⟩ := own_shape5 (show HdJ w _ _ _ _ _ _ _ _ _ _ _ _ from hcut).own
    clear hcut c0 c1
    obtain ⟨R0, hR0⟩ : ∃ R0, R0 = [wRule, nm, A] ++ (if nf = 0 then [] else [wFrom]) := ⟨_, rfl⟩
    have HR0 := Lib.hid hR0
    clear hR0
    have c2 : W4.cell? ⟨w.heap.size + 1, 2, none⟩ = some (.slice af nf kf) := by rw [cell_of_row _ _ _ _ _ _ HJ.out.bx.rl]; rfl
    obtain ⟨i0, hi, hz0, hz1, hz2⟩ := info_string
    go_upto_if 17 with fail
    go_cut [5] from 17 to 20 (fun s5 wx => HdMid w (.slice aS ns ks) x n r (sv nm) (.int .i64 ar) (.slice af nf kf) g p R0 s5 wx)
    case first =>
      by_cases hz : nf = 0
      · have hrr : R0 = [wRule, nm, A] := by rw [HR0.out, if_pos hz]; rfl
        subst hz
        subst hrr
        go_wp2_with fail
        go_meet
        exact HJ.out
      · have hrr : R0 = [wRule, nm, A] ++ [wFrom] := by rw [HR0.out, if_neg hz]
        have hp : 0 < nf := by omega
        have hpI : (0 : Int) < (nf : Int) := by omega
        subst hrr
        have HS1 := Lib.hid (show w.heap.size + 1 + 1 ≤ (W4.alloc (.cells #[.string (str wFrom)] 9)).heap.size by have := HJ.out.size; simp; omega)
        clear hz
        go_wp2_with (at_builtin; go_must (refine wpList_append_lies _ rfl _ _ 22 rfl (w.heap.size + 1 + 1) 9 i0 (.string ⟨#[]⟩) 1 16 Tryz.underlying22 hi hz0 hz1 hz2 rfl (by decide) _ _ _ rfl (World.ownsRow.alloc HJ.out.own _) ⟨W4.heap.size, 0, none⟩ 1 1 [.string (str wFrom)] rfl rfl (fun j u hj => one_new _ _ _ j u hj) (one_str _) (by decide) (show 3 + 1 ≤ maxLen by decide) (show (3 + 1) * 16 ≤ 140737488355328 by decide) HS1.out _ rfl ?_); intro g7 cap7 w7 hown7 hgrow7 hblk7 hlt7; have HA7 := Lib.hid (App.of (D := w.heap.size + 1) (grown_al W4 _) hown7 hgrow7 (hblk7.elim (fun e => Or.inl e.symm) (fun e => Or.inr (by rw [e]; rfl)))); clear hown7 hgrow7 hblk7 hlt7)
        go_meet
        exact HJ.out.push wFrom HA7.out
    case rest =>
      obtain ⟨W5, rfl⟩ : ∃ W : World, W = wc := ⟨_, rfl⟩
      have HJ5 := Lib.hid (show HdJ w _ _ _ _ _ _ _ _ _ _ _ _ from hcut)
      have c25 : W5.cell? ⟨w.heap.size + 1, 2, none⟩ = some (.slice af nf kf) := by rw [cell_of_row _ _ _ _ _ _ HJ5.out.bx.rl]; rfl
      clear hcut c2
      obtain ⟨a6, k6, rfl⟩ := own_shape5 HJ5.out.own
      go_wp2_with fail
      go_loopg [24, 5] (nf) (fun gg i v wr => ∃ k : Nat, i = .int .i64 (k : Int) ∧ k + gg = nf ∧ Hid (HdJ w (.slice aS ns ks) x n r (sv nm) (.int .i64 ar) (.slice af nf kf) g p (R0 ++ (q.from_.take k).map (at_ states)) v wr))
      case atStart => exact ⟨0, rfl, by omega, Lib.hid (by simpa using HJ5.out)⟩
      case round =>
        obtain ⟨k, rfl, hkg, HJ6⟩ := hrel
        obtain ⟨a7, k7, hv7⟩ := own_shape5 HJ6.out.own
        subst hv7
        have hR0l : R0.length ≤ 4 := by
          rw [HR0.out]
          split <;> simp
        have hnf : nf ≤ 1000000 := by have := HQ.out.2.1; have := HNF.out; omega
        have hwk : IntKind.i64.wrap ((k : Int) + 1) = (k : Int) + 1 := IntWalk.i64_in _ (by omega)
        by_cases hlt : k < nf
        · have hltI : (k : Int) < (nf : Int) := by omega
          have hk0 : 0 ≤ (k : Int) := by omega
          obtain ⟨y, hy⟩ : ∃ y, q.from_[k]? = some y := ⟨_, List.getElem?_eq_getElem (by rw [HNF.out.1]; exact hlt)⟩
          obtain ⟨b, off, haf, hcell⟩ := HFC.out k (.int .i64 y) (by rw [List.getElem?_map, hy]; rfl)
          obtain ⟨hy0, hy1⟩ := HQ.out.1 y (List.mem_of_getElem? hy)
          obtain ⟨yi, rfl⟩ := Int.eq_ofNat_of_zero_le hy0
          have hyn : yi < ns := by rw [← HNF.out.2]; omega
          have hynI : (yi : Int) < (ns : Int) := by omega
          obtain ⟨z, hz⟩ : ∃ z, states[yi]? = some z := ⟨_, List.getElem?_eq_getElem (by rw [HNF.out.2]; exact hyn)⟩
          obtain ⟨b2, off2, haS, hcell2⟩ := HSC.out yi (sv z) (by rw [List.getElem?_map, hz]; rfl)
          have hat : at_ states (yi : Int) = z := by
            unfold at_
            rw [Int.toNat_natCast, List.getD_eq_getElem?_getD, hz]; rfl
          subst haf
          subst haS
          have hc1 := kept_cell HJ6.out.bel hcell
          have hc2 : wr.cell? ⟨b2, off2 + yi, none⟩ = some (.string (str z)) := kept_cell HJ6.out.bel hcell2
          have hcs : wr.cell? ⟨w.heap.size, 0, none⟩ = some (.slice (some ⟨b2, off2, none⟩) ns ks) := by rw [cell_of_row _ _ _ _ _ _ HJ6.out.bx.tb]; rfl
          have HTK := Lib.hid (show R0 ++ (q.from_.take (k + 1)).map (at_ states) = (R0 ++ (q.from_.take k).map (at_ states)) ++ [z] by rw [List.take_add_one, hy, List.map_append, List.append_assoc]; simp [hat])
          obtain ⟨rows, hrows⟩ : ∃ rows, R0 ++ (q.from_.take k).map (at_ states) = rows := ⟨_, rfl⟩
          have hrl : rows.length ≤ 1000004 := by rw [← hrows]; simp; omega
          rw [hrows] at HJ6 HTK ⊢
          have HR1 := Lib.hid (show rows.length + 1 ≤ maxLen by unfold maxLen; omega)
          have HR2 := Lib.hid (show (rows.length + 1) * 16 ≤ 140737488355328 by omega)
          have HS1 := Lib.hid (show w.heap.size + 1 + 1 ≤ (wr.alloc (.cells #[.string (str z)] 9)).heap.size by have := HJ6.out.size; simp; omega)
          clear hy hcell hcell2 hz hat hrows hrl
          go_wp2_with (at_builtin; go_must (refine wpList_append_lies _ rfl _ _ 22 rfl (w.heap.size + 1 + 1) 9 i0 (.string ⟨#[]⟩) 1 16 Tryz.underlying22 hi hz0 hz1 hz2 rfl (by decide) _ _ _ rfl (World.ownsRow.alloc HJ6.out.own _) ⟨wr.heap.size, 0, none⟩ 1 1 [.string (str z)] rfl rfl (fun j u hj => one_new _ _ _ j u hj) (one_str _) (by decide) HR1.out HR2.out HS1.out _ rfl ?_); intro g7 cap7 w7 hown7 hgrow7 hblk7 hlt7; have HA7 := Lib.hid (App.of (D := w.heap.size + 1) (grown_al wr _) hown7 hgrow7 (hblk7.elim (fun e => Or.inl e.symm) (fun e => Or.inr (by rw [e]; rfl)))); clear hown7 hgrow7 hblk7 hlt7)
          have HJ7 := Lib.hid (HJ6.out.push z HA7.out)
          go_roundg (nf - (k + 1))
          case measure => omega
          case rel => exact ⟨k + 1, by go_num, by omega, by rw [HTK.out]; exact HJ7⟩
        · have hltI : ¬ (k : Int) < (nf : Int) := by omega
          have hk : k = nf := by omega
          have hfin : R0 ++ (q.from_.take k).map (at_ states) = headWords states q := by
            rw [HR0.out, hk, ← HNF.out.1, List.take_length]
            unfold headWords
            rw [HNM.out, HA.out]
            cases hq0 : q.from_ with
            | nil => simp
            | cons _ _ => simp
          rw [hfin] at HJ6 ⊢
          have hcap : (headWords states q).length ≤ k7 := by
            rcases HJ6.out.own.2 with ⟨e, h0⟩ | ⟨_, _, _, e, _, _, h1, _⟩
            · injection e with _ _ e; omega
            · injection e with _ _ e; omega
          have hwl : (headWords states q).length ≤ 140737488355328 := by rw [← hfin]; simp; omega
          have HJN := Lib.hid (fun W (hb : Below wr.heap.size wr W) => join_any a7 k7 (headWords states q) [32] W (Sl.below (Sl.owns HJ6.out.own) hb) hcap hwl HJL.out)
          obtain ⟨res, hres⟩ : ∃ res, Lib.join (headWords states q) [32] = res := ⟨_, rfl⟩
          rw [hres] at HJN
          have HRES := Lib.hid hres
          clear hres
          obtain ⟨lw, hlw⟩ : ∃ l, (headWords states q).length = l := ⟨_, rfl⟩
          rw [hlw] at HJN ⊢
          unfold sv at HJN
          clear hfin hcap hwl hk hlw
          go_wp2_with (go_at_call 23; refine (HJN.out _ (Below.refl _ _)).mono ?_; rintro _ w8 ⟨rfl, hb8⟩; have HB8 := Lib.hid hb8; clear hb8)
          go_ret
          exact ⟨by rw [HRES.out]; rfl, HJ6.out.bel.trans (HB8.out.mono HJ6.out.bel.size)⟩
end Go.Proofs.YtfooiggedgcjcaaGreatDoor.T
