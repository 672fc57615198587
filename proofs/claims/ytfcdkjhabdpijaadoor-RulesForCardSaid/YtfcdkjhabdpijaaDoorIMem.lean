/-
  Layer 4: texts and names in memory, digits' lengths, what the package's variables hold.
-/
import Derived.Test.YtfcdkjhabdpijaaDoorIBack
import Derived.Test.YtfcdkjhabdpijaaDoorKSl
import Derived.Test.YtfcdkjhabdpijaaDoorKIns
import Derived.Test.YtfcdkjhabdpijaaDoorKBase
import Derived.Test.YtfcdkjhabdpijaaDoorEAux
import Derived.Test.YtfcdkjhabdpijaaDoorIPush
import Derived.Lib.SmallJoins
namespace Go.Proofs.YtfcdkjhabdpijaaDoor.I
open Go Go.RowKit Go.Proofs.YtfcdkjhabdpijaaDoor.B Go.Proofs.YtfcdkjhabdpijaaDoor.K Go.Proofs.YtfcdkjhabdpijaaDoor.E
set_option linter.unusedVariables false

theorem str_get (l : Bs) (k : Nat) (h : k < (str l).size) : (str l)[k]'h = l[k]'(by rwa [str_size] at h) := by
  show (str l).data[k]'_ = _
  simp only [str, List.getElem_toArray]

theorem isName_cons (c : UInt8) (r : Bs) : isName (c :: r) = (decide (r.length < 24) && letter c && (c :: r).all idc && decide (c :: r ≠ wmin) && decide (c :: r ≠ wmax) && decide (c :: r ≠ wif)) := rfl

theorem name_all (s : Bs) (k : Nat) (h : k < s.length) (hc : idc s[k] = false) : isName s = false := by
  match s, h, hc with
  | c :: r, h, hc =>
    have ha : (c :: r).all idc = false := by
      rw [List.all_eq_false]
      exact ⟨(c :: r)[k], List.getElem_mem h, by rw [hc]; decide⟩
    rw [isName_cons, ha]
    simp

theorem name_yes (s : Bs) (hp : 0 < s.length) (hl : letter (s[0]'hp) = true) (ha : s.all idc = true) (k1 : s ≠ wmin) (k2 : s ≠ wmax) (k3 : s ≠ wif) (h24 : s.length ≤ 24) : isName s = true := by
  match s, hp, hl, ha, k1, k2, k3, h24 with
  | c :: r, hp, hl, ha, k1, k2, k3, h24 =>
    rw [isName_cons, ha, show letter c = true from hl, decide_eq_true k1, decide_eq_true k2, decide_eq_true k3, decide_eq_true (by rw [List.length_cons] at h24; omega)]
    rfl

theorem idc_of (c : UInt8) : idc c = (letter c || digit c || decide (c = 95)) := rfl

theorem dig_small (n : Nat) (h : n < 10) : dig n = [UInt8.ofNat (48 + n)] := by unfold dig; rw [dif_pos h]
theorem dig_big (n : Nat) (h : ¬ n < 10) : dig n = dig (n / 10) ++ [UInt8.ofNat (48 + n % 10)] := by
  conv => lhs; unfold dig
  rw [dif_neg h]

theorem dig_length63 (n : Nat) (h : n ≤ 9223372036854775807) : (dig n).length ≤ 19 := by
  have key : ∀ d n, n < 10 ^ (d + 1) → (dig n).length ≤ d + 1 := by
    intro d
    induction d with
    | zero => intro n hn; unfold dig; rw [dif_pos (by omega)]; simp
    | succ d ih =>
      intro n hn
      unfold dig
      split
      · simp
      · rw [List.length_append]
        have := ih (n / 10) (by rw [Nat.div_lt_iff_lt_mul (by decide)]; rw [Nat.pow_succ] at hn; omega)
        simp only [List.length_cons, List.length_nil]; omega
  exact key 18 n (by omega)

theorem cell_kept {w w' : World} {g j : Nat} {u : Value} (hb : Below w.heap.size w w') (h : w.cell? ⟨g, j, none⟩ = some u) : w'.cell? ⟨g, j, none⟩ = some u :=
  ((bcell hb).1 _ _ (World.block_lt_of_cell? w _ h)).trans h

/-- How long a text may be. -/
theorem text_le (vs : List Bs) (V : Nat) (nv na : Int) (hna : na ≤ 9223372036854775807) (hV : ∀ s ∈ vs, s.length ≤ V) (e : Ex) (hw : WF nv na e) : (text vs e).length + 2 ≤ (V + 40) * (codeOf e).length := by
  unfold text
  induction e with
  | con n =>
    have hv := (isVal_iff n).1 hw
    have := dig_length n.natAbs (by omega)
    unfold pieces codeOf
    split <;> simp <;> omega
  | var k =>
    have hl : (vs.getD k []).length ≤ V := by
      rw [List.getD_eq_getElem?_getD]
      cases h : vs[k]? with
      | none => simp
      | some s => exact hV s (List.mem_of_getElem? h)
    unfold pieces codeOf
    simp at hl ⊢; omega
  | arg k =>
    have hk : (k : Int) < na := hw
    have := dig_length63 k (by omega)
    unfold pieces codeOf
    simp; omega
  | un o a ih =>
    have ih := ih hw.2
    have hw' := wrap_length (rank a) 6 (pieces vs a)
    unfold pieces codeOf
    simp only [List.length_append, List.length_cons, List.length_nil, Nat.mul_add]
    split
    · split
      · simp at ih ⊢; omega
      · simp at ih hw' ⊢; omega
    · simp at ih hw' ⊢; omega
  | ite a b c iha ihb ihc =>
    have iha := iha hw.1
    have ihb := ihb hw.2.1
    have ihc := ihc hw.2.2
    unfold pieces codeOf
    simp only [List.length_append, List.length_cons, List.length_nil, Nat.mul_add]
    simp [wif] at iha ihb ihc ⊢; omega
  | bin o a b iha ihb =>
    have iha := iha hw.2.1
    have ihb := ihb hw.2.2
    have hs := sign_length o
    unfold pieces codeOf
    simp only [List.length_append, List.length_cons, List.length_nil, Nat.mul_add]
    split
    · have hw' : (if o = 9 then wmin else wmax).length = 3 := by split <;> rfl
      simp only [List.flatten_append, List.flatten_cons, List.flatten_nil, List.length_append, hw', List.length_cons, List.length_nil]
      omega
    · have h1 := wrap_length (rank a) (if rank (.bin o a b) = 3 then 4 else rank (.bin o a b)) (pieces vs a)
      have h2 := wrap_length (rank b) (rank (.bin o a b) + 1) (pieces vs b)
      simp only [List.flatten_append, List.flatten_cons, List.flatten_nil, List.length_append, List.length_cons, List.length_nil]
      omega

/-- A list of texts in a slice. -/
def Names (w : World) (v : Value) (vs : List Bs) : Prop := Sl w v (vs.map sv)

/-- A text with brackets around it, if it must be. -/
def shw (vs : List Bs) (e : Ex) (least : Nat) : Bs := if rank e < least then [40] ++ text vs e ++ [41] else text vs e
theorem shw_eq (vs : List Bs) (e : Ex) (least : Nat) : (wrap (rank e) least (pieces vs e)).flatten = shw vs e least := by
  unfold wrap shw text
  split <;> simp


/-- The signs, by instructions. -/
def signL : List Bs := [[], [], [], [], [45], [33], [43], [45], [42], wmin, wmax, [60], [60, 61], [61], [38], [124], wif]
/-- What the package's variables hold from the start. -/
structure Glob (w : World) : Prop where
  signs : ∃ (T : TypeId) (fr : Nat × Nat), w.heap[0]? = some (.cells (signL.map sv).toArray T fr)

theorem Glob.below {w w' : World} (h : Glob w) (hb : Below w.heap.size w w') : Glob w' := by
  obtain ⟨⟨T, fr, hs⟩⟩ := h
  exact ⟨⟨T, fr, (hb.block _ (Array.getElem?_eq_some_iff.1 hs).1).trans hs⟩⟩
theorem Glob.cell {w : World} (h : Glob w) (j : Nat) (l : Bs) (hl : signL[j]? = some l) : w.cell? ⟨0, j, none⟩ = some (sv l) := by
  obtain ⟨⟨T, fr, hs⟩⟩ := h
  rw [cell_of_row _ _ _ _ _ _ hs]
  simp [hl]
end Go.Proofs.YtfcdkjhabdpijaaDoor.I
