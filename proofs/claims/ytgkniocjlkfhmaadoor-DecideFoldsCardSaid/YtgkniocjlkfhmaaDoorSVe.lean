/-
  Contracts of the reference of layer 3: Takes, Value, one, Times.
  Contract of the reference of layer 3: Check.
  Plain mathematics of layer 3: one instruction more, of what may be.
  Contract of the reference of layer 3: Times (a product in two halves).
  Contract of the reference of layer 3: one.
  Contract of the reference of layer 3: Made.
  For the walk of the reference's Eval: one instruction more, a row's copy.
  Lists of values, one by one.
-/
import Derived.Test.YtgkniocjlkfhmaaDoorSVb
import Derived.Deep.QuietTactic
import Derived.BigQuiet
import Derived.Deep.DeepCutAuto
import Derived.OwnWalk
import Derived.Deep.RegionHeld3
namespace Go.Proofs.YtgkniocjlkfhmaaDoor.E
open Go Go.RowKit Go.Proofs.YtgkniocjlkfhmaaDoor.B Go.Proofs.YtgkniocjlkfhmaaDoor.K
set_option linter.unusedVariables false

theorem takes_table (k : Nat) (h1 : 1 ≤ k) (h2 : k ≤ 16) :
    (#[Value.int .i64 (-1), .int .i64 0, .int .i64 0, .int .i64 0, .int .i64 1, .int .i64 1, .int .i64 2, .int .i64 2, .int .i64 2, .int .i64 2, .int .i64 2, .int .i64 2, .int .i64 2, .int .i64 2, .int .i64 2, .int .i64 2, .int .i64 3] : Array Value)[k]? = some (.int .i64 (takes (k : Int))) := by
  rcases (show k = 1 ∨ k = 2 ∨ k = 3 ∨ k = 4 ∨ k = 5 ∨ k = 6 ∨ k = 7 ∨ k = 8 ∨ k = 9 ∨ k = 10 ∨ k = 11 ∨ k = 12 ∨ k = 13 ∨ k = 14 ∨ k = 15 ∨ k = 16 by omega) with
    rfl | rfl | rfl | rfl | rfl | rfl | rfl | rfl | rfl | rfl | rfl | rfl | rfl | rfl | rfl | rfl <;> rfl

end Go.Proofs.YtgkniocjlkfhmaaDoor.E

namespace Go.Proofs.YtgkniocjlkfhmaaDoor.E
open Go Go.RowKit Go.Proofs.YtgkniocjlkfhmaaDoor.B Go.Proofs.YtgkniocjlkfhmaaDoor.K
set_option linter.unusedVariables false

end Go.Proofs.YtgkniocjlkfhmaaDoor.E

namespace Go.Proofs.YtgkniocjlkfhmaaDoor.E
open Go
set_option linter.unusedVariables false

theorem crun_at (nv na : Int) (code : List In) (k : Nat) (i : In) (hi : code[k]? = some i) (h z : Int) (hc : crun nv na (code.drop k) h = .ok z) :
    0 ≤ takes i.1 ∧ right i nv na = true ∧ takes i.1 ≤ h ∧ crun nv na (code.drop (k + 1)) (h - takes i.1 + 1) = .ok z := by
  obtain ⟨hk, e⟩ := List.getElem?_eq_some_iff.1 hi
  rw [List.drop_eq_getElem_cons hk, e] at hc
  simp only [crun, cstep] at hc
  split at hc
  · cases hc
  · split at hc
    · cases hc
    · split at hc
      · cases hc
      · rename_i h1 h2 h3
        exact ⟨by omega, by simpa using h2, by omega, hc⟩
end Go.Proofs.YtgkniocjlkfhmaaDoor.E

namespace Go.Proofs.YtgkniocjlkfhmaaDoor.E
open Go Go.RowKit Go.Proofs.YtgkniocjlkfhmaaDoor.B Go.Proofs.YtgkniocjlkfhmaaDoor.K
set_option linter.unusedVariables false

theorem abs_mul (a b : Int) (A B : Nat) (ha : a.natAbs ≤ A) (hb : b.natAbs ≤ B) : (a * b).natAbs ≤ A * B := by
  rw [Int.natAbs_mul]; exact Nat.mul_le_mul ha hb

theorem halves_of (b : Int) : ∃ q r : Int, b.tdiv 1048576 = q ∧ b.tmod 1048576 = r ∧ q * 1048576 + r = b ∧ r.natAbs < 1048576 ∧ (0 < q → 0 ≤ r) ∧ (q < 0 → r ≤ 0) := by
  have h := Int.mul_tdiv_add_tmod b 1048576
  have h1 : (b.tmod 1048576).natAbs < 1048576 := by
    rw [Int.natAbs_tmod]; exact Nat.mod_lt _ (by decide)
  refine ⟨_, _, rfl, rfl, by omega, h1, fun hq => ?_, fun hq => ?_⟩
  · rcases Int.le_total 0 b with hb | hb
    · exact Int.tmod_nonneg _ hb
    · have h2 : 0 ≤ (-b).tmod 1048576 := Int.tmod_nonneg _ (by omega)
      rw [Int.neg_tmod] at h2
      omega
  · rcases Int.le_total 0 b with hb | hb
    · have h2 : 0 ≤ b.tmod 1048576 := Int.tmod_nonneg _ hb
      omega
    · have h2 : 0 ≤ (-b).tmod 1048576 := Int.tmod_nonneg _ (by omega)
      rw [Int.neg_tmod] at h2
      omega

/-- Of the same sign. -/
theorem same_sign (a q r : Int) (h1 : 0 < q → 0 ≤ r) (h2 : q < 0 → r ≤ 0) : (0 < a * q → 0 ≤ a * r) ∧ (a * q < 0 → a * r ≤ 0) := by
  rcases Int.lt_trichotomy q 0 with hq | hq | hq
  · have hr := h2 hq
    rcases Int.lt_trichotomy a 0 with ha | ha | ha
    · have e1 : 0 ≤ (-a) * (-r) := Int.mul_nonneg (by omega) (by omega)
      have e2 : 0 < (-a) * (-q) := Int.mul_pos (by omega) (by omega)
      rw [Int.neg_mul_neg] at e1 e2
      exact ⟨fun _ => e1, fun h => by omega⟩
    · subst ha; simp
    · have e1 : 0 ≤ a * (-r) := Int.mul_nonneg (by omega) (by omega)
      have e2 : 0 < a * (-q) := Int.mul_pos (by omega) (by omega)
      rw [Int.mul_neg] at e1 e2
      exact ⟨fun h => by omega, fun _ => by omega⟩
  · subst hq; simp
  · have hr := h1 hq
    rcases Int.lt_trichotomy a 0 with ha | ha | ha
    · have e1 : 0 ≤ (-a) * r := Int.mul_nonneg (by omega) (by omega)
      have e2 : 0 < (-a) * q := Int.mul_pos (by omega) (by omega)
      rw [Int.neg_mul] at e1 e2
      exact ⟨fun h => by omega, fun _ => by omega⟩
    · subst ha; simp
    · have e1 : 0 ≤ a * r := Int.mul_nonneg (by omega) (by omega)
      have e2 : 0 < a * q := Int.mul_pos (by omega) (by omega)
      exact ⟨fun _ => e1, fun h => by omega⟩

/-- A product in two halves. -/
theorem halves (a b : Int) (ha : -1099511627776 ≤ a ∧ a ≤ 1099511627776) (hb : -1099511627776 ≤ b ∧ b ≤ 1099511627776) :
    ∃ q r H L : Int, b.tdiv 1048576 = q ∧ wrap64 q = q ∧ b.tmod 1048576 = r ∧ a * q = H ∧ a * r = L ∧ -1152921504606846976 ≤ H ∧ H ≤ 1152921504606846976 ∧ -1152921504606846976 ≤ L ∧ L ≤ 1152921504606846976 ∧ H * 1048576 + L = a * b ∧
      (2097152 < H → isVal (a * b) = false) ∧ (H < -2097152 → isVal (a * b) = false) := by
  obtain ⟨q, r, hq, hr, he, h1, h2, h3⟩ := halves_of b
  have hs := same_sign a q r h2 h3
  have hqa : q.natAbs ≤ 1048576 := by omega
  have H1 := abs_mul a q 1099511627776 1048576 (by omega) hqa
  have L1 := abs_mul a r 1099511627776 1048576 (by omega) (by omega)
  have hp : (a * q) * 1048576 + a * r = a * b := by rw [← he, Int.mul_add, Int.mul_assoc]
  refine ⟨q, r, a * q, a * r, hq, IntWalk.wrap64_in _ (by omega), hr, rfl, rfl, by omega, by omega, by omega, by omega, hp, fun h => ?_, fun h => ?_⟩
  · rw [isVal_not]; have := hs.1 (by omega); omega
  · rw [isVal_not]; have := hs.2 (by omega); omega

end Go.Proofs.YtgkniocjlkfhmaaDoor.E

namespace Go.Proofs.YtgkniocjlkfhmaaDoor.E
open Go Go.RowKit Go.Proofs.YtgkniocjlkfhmaaDoor.B Go.Proofs.YtgkniocjlkfhmaaDoor.K
set_option linter.unusedVariables false

end Go.Proofs.YtgkniocjlkfhmaaDoor.E

namespace Go.Proofs.YtgkniocjlkfhmaaDoor.E
open Go Go.RowKit Go.Proofs.YtgkniocjlkfhmaaDoor.B Go.Proofs.YtgkniocjlkfhmaaDoor.K
set_option linter.unusedVariables false

/-- What Made answers says what an instruction comes to. -/
def Says (m : Option Int) (x : Int) (ok : Bool) : Prop := m = if ok = true then some x else none

theorem says_some (x : Int) : Says (some x) x true := rfl
theorem says_gv (n : Int) : Says (gv n) n (isVal n) := rfl
theorem says_times (n x : Int) (h : isVal n = true → x = n) : Says (gv n) x (isVal n) := by
  unfold Says gv
  cases hv : isVal n with
  | true => rw [h hv]
  | false => rfl

/-- An ending with a number and whether it is one. -/
def MadeIs (m : Option Int) (e : Ending) : Prop := ∃ x ok, e = .returned (.tuple #[.int .i64 x, .bool ok]) ∧ Says m x ok

theorem says_one (p : Prop) [Decidable p] (b : Bool) (h : decide p = b) : Says (some (one (decide p))) (one b) true := by rw [h]; rfl
theorem says_if (p : Prop) [Decidable p] (a b x : Int) (h : (p ∧ x = a) ∨ (¬ p ∧ x = b)) : Says (some (if p then a else b)) x true := by
  rcases h with ⟨h, rfl⟩ | ⟨h, rfl⟩
  · rw [if_pos h]; rfl
  · rw [if_neg h]; rfl

theorem ret_says {m : Option Int} {x : Int} {ok : Bool} {w w' : World} (h : Says m x ok) (hb : Below w.heap.size w w') :
    MadeIs m (.returned (.tuple #[.int .i64 x, .bool ok])) ∧ Below w.heap.size w w' := ⟨⟨x, ok, rfl, h⟩, hb⟩

theorem made_at (o a b c : Int) (m : Option Int) (h : made o a b c = m) {x : Int} {ok : Bool} (hs : Says m x ok) : Says (made o a b c) x ok := by rw [h]; exact hs

theorem sl_one {w : World} {v : Value} {a : Int} (h : Sl w v [.int .i64 a]) : ∃ b off cap, v = .slice (some ⟨b, off, none⟩) 1 cap ∧ w.cell? ⟨b, off, none⟩ = some (.int .i64 a) := by
  obtain ⟨ad, cap, rfl, hc⟩ := h
  obtain ⟨b, off, rfl, h0⟩ := hc 0 _ rfl
  exact ⟨b, off, cap, rfl, h0⟩
theorem sl_two {w : World} {v : Value} {a b : Int} (h : Sl w v [.int .i64 a, .int .i64 b]) : ∃ bk off cap, v = .slice (some ⟨bk, off, none⟩) 2 cap ∧ w.cell? ⟨bk, off, none⟩ = some (.int .i64 a) ∧ w.cell? ⟨bk, off + 1, none⟩ = some (.int .i64 b) := by
  obtain ⟨ad, cap, rfl, hc⟩ := h
  obtain ⟨bk, off, rfl, h0⟩ := hc 0 _ rfl
  obtain ⟨bk', off', e, h1⟩ := hc 1 _ rfl
  cases e
  exact ⟨bk, off, cap, rfl, h0, h1⟩
theorem sl_three {w : World} {v : Value} {a b c : Int} (h : Sl w v [.int .i64 a, .int .i64 b, .int .i64 c]) : ∃ bk off cap, v = .slice (some ⟨bk, off, none⟩) 3 cap ∧ w.cell? ⟨bk, off, none⟩ = some (.int .i64 a) ∧ w.cell? ⟨bk, off + 1, none⟩ = some (.int .i64 b) ∧ w.cell? ⟨bk, off + 2, none⟩ = some (.int .i64 c) := by
  obtain ⟨ad, cap, rfl, hc⟩ := h
  obtain ⟨bk, off, rfl, h0⟩ := hc 0 _ rfl
  obtain ⟨bk', off', e, h1⟩ := hc 1 _ rfl
  cases e
  obtain ⟨bk', off', e, h2⟩ := hc 2 _ rfl
  cases e
  exact ⟨bk, off, cap, rfl, h0, h1, h2⟩

theorem takes_cases (o : Int) : (takes o = 1 → o = 4 ∨ o = 5) ∧ (takes o = 2 → o = 6 ∨ o = 7 ∨ o = 8 ∨ o = 9 ∨ o = 10 ∨ o = 11 ∨ o = 12 ∨ o = 13 ∨ o = 14 ∨ o = 15) ∧ (takes o = 3 → o = 16) := by
  unfold takes
  refine ⟨fun h => ?_, fun h => ?_, fun h => ?_⟩
  all_goals (repeat' split at h)
  all_goals omega

end Go.Proofs.YtgkniocjlkfhmaaDoor.E

namespace Go.Proofs.YtgkniocjlkfhmaaDoor.E
open Go Go.RowKit Go.Proofs.YtgkniocjlkfhmaaDoor.B Go.Proofs.YtgkniocjlkfhmaaDoor.K
set_option linter.unusedVariables false
set_option maxRecDepth 100000

theorem run_at (vs ar : List Int) (code : List In) (k : Nat) (i : In) (hi : code[k]? = some i) (st : List Int) : run vs ar (code.drop k) st = (step vs ar i st).bind (run vs ar (code.drop (k + 1))) := by
  obtain ⟨hk, e⟩ := List.getElem?_eq_some_iff.1 hi
  rw [List.drop_eq_getElem_cons hk, e]
  rfl

/-- The row of numbers, the first one first. -/
def rowOf (st : List Int) : List Value := st.reverse.map (Value.int .i64)
theorem rowOf_length (st : List Int) : (rowOf st).length = st.length := by simp [rowOf]
theorem rowOf_push (x : Int) (st : List Int) : rowOf st ++ [.int .i64 x] = rowOf (x :: st) := by simp [rowOf]

theorem step_var (vs ar : List Int) (x : Int) (st : List Int) : step vs ar (2, x) st = some (vs.getD x.toNat 0 :: st) := by unfold step; rw [if_pos rfl]
theorem step_arg (vs ar : List Int) (x : Int) (st : List Int) : step vs ar (3, x) st = some (ar.getD x.toNat 0 :: st) := by unfold step; rw [if_neg (show ¬ (3 : Int) = 2 by decide), if_pos rfl]
theorem step_none (vs ar : List Int) (o x : Int) (st : List Int) (h : takes o = 0) (h2 : o ≠ 2) (h3 : o ≠ 3) : step vs ar (o, x) st = some (x :: st) := by
  unfold step; rw [if_neg h2, if_neg h3]; simp only [h]; simp
theorem step_one (vs ar : List Int) (o x a : Int) (r : List Int) (h : takes o = 1) : step vs ar (o, x) (a :: r) = (made o a 0 0).map (· :: r) := by
  have h' := step_op vs ar (o, x) (show 0 < takes (o, x).1 by show 0 < takes o; omega)
  unfold step; rw [if_neg h'.1, if_neg h'.2, if_pos h]
theorem step_two (vs ar : List Int) (o x a b : Int) (r : List Int) (h : takes o = 2) : step vs ar (o, x) (b :: a :: r) = (made o a b 0).map (· :: r) := by
  have h' := step_op vs ar (o, x) (show 0 < takes (o, x).1 by show 0 < takes o; omega)
  unfold step; rw [if_neg h'.1, if_neg h'.2, if_neg (by show ¬ takes o = 1; omega), if_pos h]
theorem step_three (vs ar : List Int) (o x a b c : Int) (r : List Int) (h : takes o = 3) : step vs ar (o, x) (c :: b :: a :: r) = (made o a b c).map (· :: r) := by
  have h' := step_op vs ar (o, x) (show 0 < takes (o, x).1 by show 0 < takes o; omega)
  unfold step; rw [if_neg h'.1, if_neg h'.2, if_neg (by show ¬ takes o = 1; omega), if_neg (by show ¬ takes o = 2; omega), if_pos h]

theorem Tryd.info3 : (Tryd.prog.info? 3).map (fun i => (i.zero, i.size, i.bytes)) = some (some (.int .i64 0), 1, 8) := by kernel_rfl

section
variable {P : Program}

/-- A row of the call's own, nil or not, appended onto an empty one just made. -/
theorem wpList_append_clone {w : World} {ops : Array Oper} {rest : List Oper} {o : Oper} {a : Act} {Q : Exit → Act → World → Prop} (hgd : o.guard = none) (s x : Operand) (t : TypeId)
    (ho : o.op = .call { callee := .builtin .append, args := #[s, x], argTypes := #[t, t] })
    (base : Nat) (e : TypeId) (i : TypeInfo) (z : Value) (bytes : Nat) (ht : P.underlying t = some (.slice e)) (hi : P.info? e = some i) (hz : i.zero = some z) (hsize : i.size = 1) (hby : i.bytes = bytes) (hzs : z.cells.size = 1)
    (g : Nat) (hs : a.eval s = .slice (some ⟨g, 0, none⟩) 0 0) (hown : w.ownsRow base e 1 (.slice (some ⟨g, 0, none⟩) 0 0) 0 [])
    (v : Value) (m : Nat) (xs : List Value) (hx : a.eval x = v) (hown2 : w.ownsRow base e 1 v m xs) (h1 : ∀ u ∈ xs, u.oneCell' = true) (h63 : m ≤ maxLen) (hbytes : m * bytes ≤ 140737488355328) (hbase : base ≤ w.heap.size)
    (h : ∀ v' w', w'.ownsRow base e 1 v' m xs → w.grownBy w' (some g) → wpList P ops Q rest (a.put o.dst v') w') : wpList P ops Q (o :: rest) a w := by
  obtain ⟨hl, hv⟩ := hown2
  rcases hv with ⟨rfl, rfl⟩ | ⟨g2, cap, cur, rfl, hb2, hg2, hn2, hc2, hcs2, ht2⟩
  · have hxs : xs = [] := List.eq_nil_of_length_eq_zero (by omega)
    subst hxs
    refine wpList_append_fits_any w hgd s x t ho base e i 1 ht hi hsize g 0 0 [] hs hown none 0 0 [] hx rfl (fun _ => ⟨rfl, rfl⟩) (fun ad hh => by cases hh) (by simp) (by omega) ?_
    intro w' hw hg
    exact h _ w' hw hg
  · refine wpList_append_own w hgd s x t ho base e i z 1 bytes ht hi hz hsize hby hzs (by decide) _ 0 [] hs hown ⟨g2, 0, none⟩ m cap xs hx hl ?_ h1 (by omega) (by rw [Nat.zero_add]; exact hbytes) hbase ?_
    · intro j u hj
      have := Lib.cells_of_row hg2 (m * 1) j u (by rw [ht2]; exact hj)
      exact this
    · intro v' w' hw hg _
      rw [Nat.zero_add, List.nil_append] at hw
      exact h v' w' hw hg
end

/-- An empty row just made. -/
theorem owns_empty (w : World) (e : TypeId) : (w.alloc (.cells #[] e)).ownsRow w.heap.size e 1 (.slice (some ⟨w.heap.size, 0, none⟩) 0 0) 0 [] := owns_made w e (.int .i64 0) 0 (Nat.zero_le _)

theorem owns_base {w : World} {B B' : Nat} {e : TypeId} {s : Nat} {v : Value} {n : Nat} {xs : List Value} (h : w.ownsRow B e s v n xs) (hb : B' ≤ B) : w.ownsRow B' e s v n xs := by
  obtain ⟨hl, h⟩ := h
  refine ⟨hl, ?_⟩
  rcases h with h | ⟨g, cap, cur, hv, hg, rest⟩
  · exact Or.inl h
  · exact Or.inr ⟨g, cap, cur, hv, Nat.le_trans hb hg, rest⟩

theorem rowOf_one (st : List Int) : ∀ u ∈ rowOf st, u.oneCell' = true := by
  intro u hu
  obtain ⟨x, _, rfl⟩ := List.mem_map.1 hu
  rfl

/-- Small numbers. -/
theorem small (m k K n L : Nat) (h1 : m + k ≤ K) (h2 : K < n) (h3 : L = n) (h4 : L ≤ 31) : IntKind.i64.wrap (m : Int) = (m : Int) ∧ wrap64 (m : Int) = (m : Int) ∧ (0 : Int) ≤ (m : Int) ∧ (m : Int) ≤ (m : Int) + (k : Int) ∧ m ≤ 31 :=
  ⟨IntWalk.i64_in _ (by omega), IntWalk.wrap64_in _ (by omega), by omega, by omega, by omega⟩

/-- A row that is not empty: its block, and that its beginning is a row as well. -/
theorem owns_some {w : World} {B : Nat} {e : TypeId} {v : Value} {m k : Nat} {xs : List Value} (h : w.ownsRow B e 1 v (m + k) xs) (hk : 0 < k) :
    ∃ g cap, v = .slice (some ⟨g, 0, none⟩) (m + k) cap ∧ m + k ≤ cap ∧ (∀ j u, xs[j]? = some u → w.cell? ⟨g, j, none⟩ = some u) ∧ w.ownsRow B e 1 (.slice (some ⟨g, 0, none⟩) m cap) m (xs.take m) := by
  obtain ⟨hl, h⟩ := h
  rcases h with ⟨_, h0⟩ | ⟨g, cap, cur, rfl, hb, hg, hn, hc, hcs, ht⟩
  · omega
  · refine ⟨g, cap, rfl, hn, fun j u hj => ?_, ?_, Or.inr ⟨g, cap, cur, rfl, hb, hg, by omega, hc, hcs, ?_⟩⟩
    · have := Lib.cells_of_row hg ((m + k) * 1) j u (by rw [ht]; exact hj)
      rw [Lib.addr_add] at this
      simpa using this
    · rw [List.length_take]; omega
    · rw [← ht, List.take_take]; congr 1; omega

theorem rowOf_at1 (a : Int) (r : List Int) : (rowOf (a :: r))[r.length]? = some (.int .i64 a) ∧ (rowOf (a :: r)).take r.length = rowOf r := by
  have e : rowOf (a :: r) = rowOf r ++ [.int .i64 a] := by simp [rowOf]
  have hl := rowOf_length r
  rw [e]
  exact ⟨by rw [List.getElem?_append_right (by omega), hl, Nat.sub_self]; rfl, List.take_left' hl⟩
theorem rowOf_at2 (a b : Int) (r : List Int) : (rowOf (b :: a :: r))[r.length]? = some (.int .i64 a) ∧ (rowOf (b :: a :: r))[r.length + 1]? = some (.int .i64 b) ∧ (rowOf (b :: a :: r)).take r.length = rowOf r := by
  have e : rowOf (b :: a :: r) = rowOf r ++ [.int .i64 a, .int .i64 b] := by simp [rowOf]
  have hl := rowOf_length r
  rw [e]
  exact ⟨by rw [List.getElem?_append_right (by omega), hl, Nat.sub_self]; rfl, by rw [List.getElem?_append_right (by omega), hl, show r.length + 1 - r.length = 1 by omega]; rfl, List.take_left' hl⟩
theorem rowOf_at3 (a b c : Int) (r : List Int) : (rowOf (c :: b :: a :: r))[r.length]? = some (.int .i64 a) ∧ (rowOf (c :: b :: a :: r))[r.length + 1]? = some (.int .i64 b) ∧ (rowOf (c :: b :: a :: r))[r.length + 2]? = some (.int .i64 c) ∧ (rowOf (c :: b :: a :: r)).take r.length = rowOf r := by
  have e : rowOf (c :: b :: a :: r) = rowOf r ++ [.int .i64 a, .int .i64 b, .int .i64 c] := by simp [rowOf]
  have hl := rowOf_length r
  rw [e]
  exact ⟨by rw [List.getElem?_append_right (by omega), hl, Nat.sub_self]; rfl, by rw [List.getElem?_append_right (by omega), hl, show r.length + 1 - r.length = 1 by omega]; rfl, by rw [List.getElem?_append_right (by omega), hl, show r.length + 2 - r.length = 2 by omega]; rfl, List.take_left' hl⟩

theorem sl_of1 {w : World} {g m c : Nat} {a : Int} (h0 : w.cell? ⟨g, m, none⟩ = some (.int .i64 a)) : Sl w (.slice (some ⟨g, m, none⟩) 1 c) [.int .i64 a] :=
  ⟨_, c, rfl, fun j u hj => ⟨g, m, rfl, by match j, hj with | 0, hj => cases hj; exact h0⟩⟩
theorem sl_of2 {w : World} {g m c : Nat} {a b : Int} (h0 : w.cell? ⟨g, m, none⟩ = some (.int .i64 a)) (h1 : w.cell? ⟨g, m + 1, none⟩ = some (.int .i64 b)) : Sl w (.slice (some ⟨g, m, none⟩) 2 c) [.int .i64 a, .int .i64 b] :=
  ⟨_, c, rfl, fun j u hj => ⟨g, m, rfl, by match j, hj with | 0, hj => cases hj; exact h0 | 1, hj => cases hj; exact h1⟩⟩
theorem sl_of3 {w : World} {g m c' : Nat} {a b c : Int} (h0 : w.cell? ⟨g, m, none⟩ = some (.int .i64 a)) (h1 : w.cell? ⟨g, m + 1, none⟩ = some (.int .i64 b)) (h2 : w.cell? ⟨g, m + 2, none⟩ = some (.int .i64 c)) : Sl w (.slice (some ⟨g, m, none⟩) 3 c') [.int .i64 a, .int .i64 b, .int .i64 c] :=
  ⟨_, c', rfl, fun j u hj => ⟨g, m, rfl, by match j, hj with | 0, hj => cases hj; exact h0 | 1, hj => cases hj; exact h1 | 2, hj => cases hj; exact h2⟩⟩

/-- A cell of a row, behind what leaves all below alone. -/
theorem cell_kept {w w' : World} {g j : Nat} {u : Value} (hb : Below w.heap.size w w') (h : w.cell? ⟨g, j, none⟩ = some u) : w'.cell? ⟨g, j, none⟩ = some u :=
  ((bcell hb).1 _ _ (World.block_lt_of_cell? w _ h)).trans h

theorem says_false {m : Option Int} {x : Int} (h : Says m x false) : m = none := h
theorem says_true {m : Option Int} {x : Int} (h : Says m x true) : m = some x := h

theorem len_pop (k : Nat) (L : Nat) (r : List Int) (y : Int) (h : L = r.length + k) : ((L : Nat) : Int) - (k : Int) + 1 = (((y :: r).length : Nat) : Int) := by simp only [List.length_cons]; omega
theorem len_le (k K : Nat) (hk : 0 < k) (r : List Int) (y : Int) (h : r.length + k ≤ K) : (y :: r).length ≤ K + 1 := by simp only [List.length_cons]; omega
theorem lens (m : Nat) (h : m ≤ 31) : m ≤ maxLen ∧ m * 8 ≤ 140737488355328 ∧ m + 1 ≤ maxLen ∧ (m + 1) * 8 ≤ 140737488355328 := by unfold maxLen; omega

/-- Enough room, as numbers. -/
theorem room (m k cap : Nat) (hk : 0 < k) (h : m + k ≤ cap) : ¬ cap = m ∧ ¬ cap = 0 ∧ (m : Int) ≤ (cap : Int) ∧ ((m + k : Nat) : Int) ≤ (cap : Int) := ⟨by omega, by omega, by omega, by omega⟩

/-- 'row[m:]' of a row of m + k numbers. -/
theorem slice_from (W : World) (g m k cap : Nat) (hk : 0 < k) (hc : m + k ≤ cap) :
    (Instr.sliceAt 22 (.slice (some ⟨g, 0, none⟩) (m + k) cap) (some (.int .i64 (m : Int))) none none).run Tryd.prog W = .ok (.slice (some ⟨g, m, none⟩) k (cap - m)) W := by
  have he : Tryd.prog.underlying 22 = some (.slice (Tryd.prog.elem 22)) := by kernel_rfl
  have hs : (sizeOf (Tryd.prog.elem 22)).run Tryd.prog W = .ok 1 W := Tryd.sizeOf3 W
  rw [run_sliceAt_slice W 22 _ _ _ _ he, run_slice_l W 22 _ _ _ he .i64 (m : Int) (by omega) (by omega), hs]
  simp only [Result.andThen, sliced, Int.toNat_natCast]
  rw [if_neg (by omega), show m + k - m = k by omega]
  simp only [Option.map, Go.WideShapes.add_plain, Nat.mul_one, Nat.zero_add]

/-- 'row[:m]' of a row of m + k numbers. -/
theorem slice_to (W : World) (g m k cap : Nat) (hc : m + k ≤ cap) :
    (Instr.sliceAt 22 (.slice (some ⟨g, 0, none⟩) (m + k) cap) none (some (.int .i64 (m : Int))) none).run Tryd.prog W = .ok (.slice (some ⟨g, 0, none⟩) m cap) W := by
  have he : Tryd.prog.underlying 22 = some (.slice (Tryd.prog.elem 22)) := by kernel_rfl
  have hs : (sizeOf (Tryd.prog.elem 22)).run Tryd.prog W = .ok 1 W := Tryd.sizeOf3 W
  rw [run_sliceAt_slice W 22 _ _ _ _ he, run_slice_h W 22 _ _ _ he .i64 (m : Int) (by omega) (by omega), hs]
  simp only [Result.andThen, sliced, Int.toNat_natCast, Option.map, Go.WideShapes.add_plain, Nat.zero_mul, Nat.add_zero, Nat.sub_zero]
  split <;> rfl
end Go.Proofs.YtgkniocjlkfhmaaDoor.E

namespace Go.Proofs.YtgkniocjlkfhmaaDoor.E
open Go Go.RowKit Go.Proofs.YtgkniocjlkfhmaaDoor.B Go.Proofs.YtgkniocjlkfhmaaDoor.K
set_option linter.unusedVariables false
set_option maxRecDepth 100000

theorem all_at (l : List Int) (k : Nat) (x : Int) (h : l[k]? = some x) : (l.take (k + 1)).all isVal = ((l.take k).all isVal && isVal x) := by
  rw [List.take_add_one, h, List.all_append]
  simp

theorem all_not (l : List Int) (k : Nat) (x : Int) (h : l[k]? = some x) (hx : isVal x = false) : l.all isVal = false := by
  rw [List.all_eq_false]
  exact ⟨x, List.mem_of_getElem? h, by simp [hx]⟩

theorem map_at (l : List Int) (k : Nat) (x : Int) (h : l[k]? = some x) : (l.map (Value.int .i64))[k]? = some (.int .i64 x) := by rw [List.getElem?_map, h]; rfl
end Go.Proofs.YtgkniocjlkfhmaaDoor.E
