/-
  Layer 4, to show: an instruction put.
-/
import Derived.Test.YtbeidmkhpcnbbaaGreatDoorIPShF
namespace Go.Proofs.YtbeidmkhpcnbbaaGreatDoor.I
open Go Go.RowKit Go.Proofs.YtbeidmkhpcnbbaaGreatDoor.B Go.Proofs.YtbeidmkhpcnbbaaGreatDoor.K Go.Proofs.YtbeidmkhpcnbbaaGreatDoor.E
set_option linter.unusedVariables false

theorem push_row (vs : List Bs) (e : Ex) (st : List Ex) : (e :: st).reverse.map (pc vs) = st.reverse.map (pc vs) ++ [pc vs e] := by simp

theorem itoa_len (k : Nat) (h : k ≤ 9223372036854775807) : (itoa (k : Int)).length ≤ 1000 := by
  unfold itoa
  rw [if_neg (by omega)]
  have := dig_length63 (k : Int).toNat (by omega)
  omega

theorem step_any {w : World} {base bx : Nat} {v v1 : Value} (vs : List Bs) (na : Int) (st : List Ex) (i : In) (hna : na ≤ 9223372036854775807) (hr : right i vs.length na = true) (ht0 : 0 ≤ takes i.1) (ht : takes i.1 ≤ (st.length : Int))
    (hwf : ∀ e ∈ st, WF vs.length na e) (hlen : ∀ e ∈ st, (text vs e).length ≤ 35184372088832) (hst : st.length ≤ 1000) (hvs : Names w v1 vs) (hvl : vs.length ≤ 1000000) (hV : ∀ s ∈ vs, s.length ≤ 140737488355328) (hg : Glob w) (hbx : w.cell? ⟨bx, 0, none⟩ = some v1)
    (hrow : RowP w base v (st.reverse.map (pc vs))) (hbs : base ≤ w.heap.size) :
    Calls Tryz.prog 23 #[v, .agg #[.int .i64 i.1, .int .i64 i.2], .pointer (some ⟨bx, 0, none⟩)] w fun e w' => (∃ v', e = .returned v' ∧ RowP w' base v' ((push st i).reverse.map (pc vs))) ∧ Below base w w' := by
  obtain ⟨o, x⟩ := i
  simp only at ht0 ht
  have hrl : (st.reverse.map (pc vs)).length = st.length := by simp
  rcases right_cases (o, x) vs.length na hr with ⟨h1, h2⟩ | ⟨h1, h2, h3⟩ | ⟨h1, h2, h3⟩ | ⟨n1, n2, n3, h4⟩
  · simp only at h1 h2
    subst h1
    have hv := (isVal_iff x).1 h2
    rw [show push st (1, x) = .con x :: st from rfl, push_row]
    have := put_con (bx := bx) x (by omega) (by omega) hg hrow hbs (by omega)
    rw [show pc vs (.con x) = (itoa x, if x < 0 then 2 else 0) by unfold pc; rw [text_con, lev_con]]
    exact this
  · simp only at h1 h2 h3
    subst h1
    obtain ⟨k, rfl⟩ := Int.eq_ofNat_of_zero_le h2
    have hk : k < vs.length := by omega
    rw [show push st (2, (k : Int)) = .var k :: st from rfl, push_row]
    have := put_var (bx := bx) vs k vs[k] (List.getElem?_eq_getElem hk) hvs hvl hbx (hV _ (List.getElem_mem hk)) hrow hbs (by omega)
    rw [show pc vs (.var k) = (vs[k], 1) by unfold pc; rw [text_var vs k vs[k] (List.getElem?_eq_getElem hk)]; rfl]
    exact this
  · simp only at h1 h2 h3
    subst h1
    obtain ⟨k, rfl⟩ := Int.eq_ofNat_of_zero_le h2
    rw [show push st (3, (k : Int)) = .arg k :: st from rfl, push_row]
    have := put_arg (bx := bx) (k : Int) (by omega) (by omega) (itoa_len k (by omega)) hg hrow hbs (by omega)
    rw [show pc vs (.arg k) = ([36] ++ itoa (k : Int), 1) by unfold pc; rw [text_arg]; rfl]
    exact this
  · simp only at n1 n2 n3 h4
    subst h4
    rcases takes_is o with ⟨h, _⟩ | ⟨h, h5⟩ | ⟨h, h5⟩ | ⟨h, h5⟩ | ⟨_, h5⟩
    · omega
    · match st, ht, hwf, hlen, hrow, hrl, hst with
      | [], ht, _, _, _, _, _ => simp at ht; omega
      | a :: r, ht, hwf, hlen, hrow, hrl, hst =>
        obtain ⟨q, rfl⟩ := Int.eq_ofNat_of_zero_le (show 0 ≤ o by omega)
        have hq : q = 4 ∨ q = 5 := by omega
        have hwa := hwf a (by simp)
        have hla := hlen a (by simp)
        have hpush : push (a :: r) ((q : Int), 0) = .un (q : Int) a :: r := by rcases hq with rfl | rfl <;> rfl
        have hsplit : (a :: r).reverse.map (pc vs) = r.reverse.map (pc vs) ++ [pc vs a] := push_row vs a r
        rw [hsplit] at hrow hrl
        have hrl' : (r.reverse.map (pc vs) ++ [pc vs a]).length - 1 = (r.reverse.map (pc vs)).length := by simp
        have := put_op (bx := bx) q 1 (by omega) (by omega) (by rw [h5]; rfl) (text vs (.un (q : Int) a)) (fun W u hW hu => by
          rw [hrl', List.drop_left] at hu
          rcases text_un vs vs.length na q hq a hwa with ⟨rfl, h0, ht⟩ | ⟨h0, ht⟩
          · rw [ht]; exact together_paren (pc vs a) u W hW hu (by show (text vs a).length ≤ _; omega) h0
          · rw [ht]; exact together_un q hq (pc vs a) u W hW hu (by show (text vs a).length ≤ _; omega) h0) (by simp) hg hrow hbs (by rw [hrl]; omega)
        rw [hrl', List.take_left] at this
        rw [hpush, push_row]
        exact this
    · match st, ht, hwf, hlen, hrow, hrl, hst with
      | [], ht, _, _, _, _, _ => simp at ht; omega
      | [_], ht, _, _, _, _, _ => simp at ht; omega
      | b :: a :: r, ht, hwf, hlen, hrow, hrl, hst =>
        obtain ⟨q, rfl⟩ := Int.eq_ofNat_of_zero_le (show 0 ≤ o by omega)
        have hwa := hwf a (by simp)
        have hla := hlen a (by simp)
        have hwb := hwf b (by simp)
        have hlb := hlen b (by simp)
        have hpush : push (b :: a :: r) ((q : Int), 0) = .bin (q : Int) a b :: r := by
          unfold push
          rw [if_neg (by show ¬ takes (q : Int) = 0; omega), if_neg (by show ¬ takes (q : Int) = 1; omega), if_pos (show takes (q : Int) = 2 from h5)]
        have hsplit : (b :: a :: r).reverse.map (pc vs) = r.reverse.map (pc vs) ++ [pc vs a, pc vs b] := by simp
        rw [hsplit] at hrow hrl
        have hrl' : (r.reverse.map (pc vs) ++ [pc vs a, pc vs b]).length - 2 = (r.reverse.map (pc vs)).length := by simp
        have := put_op (bx := bx) q 2 (by omega) (by omega) (by rw [h5]; rfl) (text vs (.bin (q : Int) a b)) (fun W u hW hu => by
          rw [hrl', List.drop_left] at hu
          by_cases hm : q = 9 ∨ q = 10
          · rw [text_two vs q hm]
            exact together_call q (by omega) [pc vs a, pc vs b] u W hW hu (by simp) (by simp) (by
              simp only [List.map_cons, List.map_nil, Lib.join, List.intercalate, pc]
              simp
              omega)
          · rw [text_bin vs vs.length na q (by omega) a b hwa hwb]
            exact together_bin q (by omega) (pc vs a) (pc vs b) u W hW hu (by show (text vs a).length ≤ _; omega) (by show (text vs b).length ≤ _; omega)) (by simp) hg hrow hbs (by rw [hrl]; omega)
        rw [hrl', List.take_left] at this
        rw [hpush, push_row]
        exact this
    · subst h
      match st, ht, hwf, hlen, hrow, hrl, hst with
      | [], ht, _, _, _, _, _ => simp at ht; omega
      | [_], ht, _, _, _, _, _ => simp at ht; omega
      | [_, _], ht, _, _, _, _, _ => simp at ht; omega
      | c :: b :: a :: r, ht, hwf, hlen, hrow, hrl, hst =>
        have hla := hlen a (by simp)
        have hlb := hlen b (by simp)
        have hlc := hlen c (by simp)
        have hpush : push (c :: b :: a :: r) (16, 0) = .ite a b c :: r := rfl
        have hsplit : (c :: b :: a :: r).reverse.map (pc vs) = r.reverse.map (pc vs) ++ [pc vs a, pc vs b, pc vs c] := by simp
        rw [hsplit] at hrow hrl
        have hrl' : (r.reverse.map (pc vs) ++ [pc vs a, pc vs b, pc vs c]).length - 3 = (r.reverse.map (pc vs)).length := by simp
        have := put_op (bx := bx) 16 3 (by omega) (by omega) (by decide) (text vs (.ite a b c)) (fun W u hW hu => by
          rw [hrl', List.drop_left] at hu
          rw [text_three]
          exact together_call 16 (by omega) [pc vs a, pc vs b, pc vs c] u W hW hu (by simp) (by simp) (by
            simp only [List.map_cons, List.map_nil, Lib.join, List.intercalate, pc]
            simp
            omega)) (by simp) hg hrow hbs (by rw [hrl]; omega)
        rw [hrl', List.take_left] at this
        rw [hpush, push_row]
        exact this
    · omega
end Go.Proofs.YtbeidmkhpcnbbaaGreatDoor.I
