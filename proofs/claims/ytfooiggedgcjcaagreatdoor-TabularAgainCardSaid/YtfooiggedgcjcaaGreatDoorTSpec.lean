/-
  For the walks of layer 3: an instruction more, an instruction's number, a struct copied to a local. No program is named here.
  Plain mathematics of layer 4: what instructions make of a row of expressions.
  Layer 4: texts and names in memory, digits' lengths, what the package's variables hold.
  Plain mathematics of layer 5: what is wrong with a table.
  Layer 5, plainly: what a table that may be is like.
  Plain mathematics of layer 4: what Show answers.
  Layer 6, plainly: the text of a table, and what a text says.
-/
import Derived.Test.YtfooiggedgcjcaaGreatDoorKBase
import Derived.Test.YtfooiggedgcjcaaGreatDoorIMath
import Derived.Test.YtfooiggedgcjcaaGreatDoorIBack
import Derived.Lib.SmallJoins
import Derived.Lib.LaidTab
import Derived.Shelf.Strconv.Itoa3
import Derived.Lib.AtoiTie
import Derived.Lib.ItoaNum
import Derived.Lib.TrimByte
import Derived.Lib.Join
namespace Go.Proofs.YtfooiggedgcjcaaGreatDoor.E
open Go Go.RowKit Go.Proofs.YtfooiggedgcjcaaGreatDoor.B Go.Proofs.YtfooiggedgcjcaaGreatDoor.K
set_option linter.unusedVariables false

/-- How many numbers an instruction takes. -/
theorem takes_range (o : Int) : -1 ≤ takes o ∧ takes o ≤ 3 := by
  unfold takes; repeat' split
  all_goals omega

theorem depth_at (code : List In) (k : Nat) (i : In) (h : code[k]? = some i) (R M : Int) :
    depth (code.drop k) R M = if 0 ≤ takes i.1 ∧ R < takes i.1 then 0 else depth (code.drop (k + 1)) (if 0 ≤ takes i.1 then R - takes i.1 + 1 else R) (max M (if 0 ≤ takes i.1 then R - takes i.1 + 1 else R)) := by
  obtain ⟨hk, e⟩ := List.getElem?_eq_some_iff.1 h
  rw [List.drop_eq_getElem_cons hk, e]
  rfl

theorem chk_at (nv na : Int) (code : List In) (k : Nat) (i : In) (hi : code[k]? = some i) (h : Int) :
    chk nv na (code.drop k) k h = if takes i.1 < 0 then ((k : Int), 2) else if right i nv na = false then ((k : Int), 3) else if h < takes i.1 then ((k : Int), 5) else chk nv na (code.drop (k + 1)) (k + 1) (h - takes i.1 + 1) := by
  obtain ⟨hk, e⟩ := List.getElem?_eq_some_iff.1 hi
  rw [List.drop_eq_getElem_cons hk, e]
  rfl

theorem ret_pair {a a' b b' : Int} (h : (a, b) = (a', b')) : Ending.returned (.tuple #[.int .i64 a, .int .i64 b]) = .returned (.tuple #[.int .i64 a', .int .i64 b']) := by cases h; rfl

/-- A struct of two ints just laid, behind a call that leaves it alone. -/
theorem pair_after {wr w1 : World} {o x : Int} {T : TypeId} (hb : Below (wr.alloc (.cells #[.int .i64 o, .int .i64 x] T)).heap.size (wr.alloc (.cells #[.int .i64 o, .int .i64 x] T)) w1) :
    w1.cell? ⟨wr.heap.size, 0, none⟩ = some (.int .i64 o) ∧ w1.cell? ⟨wr.heap.size, 1, none⟩ = some (.int .i64 x) ∧ wr.heap.size < w1.heap.size ∧ Below wr.heap.size wr w1 := by
  have hsz : (wr.alloc (.cells #[.int .i64 o, .int .i64 x] T)).heap.size = wr.heap.size + 1 := by simp
  have hlt : wr.heap.size < (wr.alloc (.cells #[.int .i64 o, .int .i64 x] T)).heap.size := by omega
  refine ⟨((bcell hb).1 _ _ hlt).trans ?_, ((bcell hb).1 _ _ hlt).trans ?_, Nat.lt_of_lt_of_le hlt hb.size, ((Below.refl _ _).alloc (Nat.le_refl _) _).trans (hb.mono (by omega))⟩
  · rw [cell_of_row _ _ _ _ T (0, 0) (heap_alloc_at _ _)]; rfl
  · rw [cell_of_row _ _ _ _ T (0, 0) (heap_alloc_at _ _)]; rfl

theorem pair_next {B : Nat} {w1 w2 : World} {o x : Int} (c0 : w1.cell? ⟨B, 0, none⟩ = some (.int .i64 o)) (c1 : w1.cell? ⟨B, 1, none⟩ = some (.int .i64 x)) (hlt : B < w1.heap.size) (hb : Below w1.heap.size w1 w2) :
    w2.cell? ⟨B, 0, none⟩ = some (.int .i64 o) ∧ w2.cell? ⟨B, 1, none⟩ = some (.int .i64 x) ∧ B < w2.heap.size :=
  ⟨((bcell hb).1 _ _ hlt).trans c0, ((bcell hb).1 _ _ hlt).trans c1, Nat.lt_of_lt_of_le hlt hb.size⟩

theorem right_one (x nv na : Int) : right (1, x) nv na = isVal x := by unfold right; rw [if_pos rfl]
theorem right_two (x nv na : Int) : right (2, x) nv na = decide (0 ≤ x ∧ x < nv) := by unfold right; rw [if_neg (show ¬ (2 : Int) = 1 by decide), if_pos rfl]
theorem right_three (x nv na : Int) : right (3, x) nv na = decide (0 ≤ x ∧ x < na) := by unfold right; rw [if_neg (show ¬ (3 : Int) = 1 by decide), if_neg (show ¬ (3 : Int) = 2 by decide), if_pos rfl]
theorem right_other (o x nv na : Int) (h1 : o ≠ 1) (h2 : o ≠ 2) (h3 : o ≠ 3) : right (o, x) nv na = decide (x = 0) := by unfold right; rw [if_neg h1, if_neg h2, if_neg h3]

end Go.Proofs.YtfooiggedgcjcaaGreatDoor.E

namespace Go.Proofs.YtfooiggedgcjcaaGreatDoor.I
open Go Go.Proofs.YtfooiggedgcjcaaGreatDoor.E
set_option linter.unusedVariables false

/-- What an instruction makes of a row of expressions (the last one first). -/
def push (st : List Ex) (i : In) : List Ex :=
  if takes i.1 = 0 then (if i.1 = 1 then .con i.2 else if i.1 = 2 then .var i.2.toNat else .arg i.2.toNat) :: st
  else if takes i.1 = 1 then (match st with | a :: r => .un i.1 a :: r | _ => st)
  else if takes i.1 = 2 then (match st with | b :: a :: r => .bin i.1 a b :: r | _ => st)
  else (match st with | c :: b :: a :: r => .ite a b c :: r | _ => st)

theorem push_code (nv na : Int) (e : Ex) (hw : WF nv na e) : ∀ st, (codeOf e).foldl push st = e :: st := by
  induction e with
  | con n => intro st; rfl
  | var k => intro st; show push st (2, (k : Int)) = _; unfold push; rw [if_pos (show takes (2, (k : Int)).1 = 0 from (by decide : takes 2 = 0)), if_neg (by show ¬ (2 : Int) = 1; decide), if_pos rfl]; simp
  | arg k => intro st; show push st (3, (k : Int)) = _; unfold push; rw [if_pos (show takes (3, (k : Int)).1 = 0 from (by decide : takes 3 = 0)), if_neg (by show ¬ (3 : Int) = 1; decide), if_neg (by show ¬ (3 : Int) = 2; decide)]; simp
  | un o a ih =>
    intro st
    simp only [codeOf, List.foldl_append, ih hw.2, List.foldl_cons, List.foldl_nil]
    rcases hw.1 with rfl | rfl <;> rfl
  | bin o a b iha ihb =>
    intro st
    have ht : takes (o, (0 : Int)).1 = 2 := hw.1
    simp only [codeOf, List.foldl_append, iha hw.2.1, ihb hw.2.2, List.foldl_cons, List.foldl_nil]
    unfold push
    rw [if_neg (by omega), if_neg (by omega), if_pos ht]
  | ite a b c iha ihb ihc =>
    intro st
    simp only [codeOf, List.foldl_append, iha hw.1, ihb hw.2.1, ihc hw.2.2, List.foldl_cons, List.foldl_nil]
    rfl

/-- An expression is its instructions'. -/
theorem ex_unique (nv na : Int) (e f : Ex) (he : WF nv na e) (hf : WF nv na f) (h : codeOf e = codeOf f) : e = f := by
  have h1 := push_code nv na e he []
  rw [h, push_code nv na f hf []] at h1
  exact (List.cons.inj h1).1.symm
end Go.Proofs.YtfooiggedgcjcaaGreatDoor.I

namespace Go.Proofs.YtfooiggedgcjcaaGreatDoor.I
open Go Go.RowKit Go.Proofs.YtfooiggedgcjcaaGreatDoor.B Go.Proofs.YtfooiggedgcjcaaGreatDoor.K Go.Proofs.YtfooiggedgcjcaaGreatDoor.E
set_option linter.unusedVariables false

theorem str_get (l : Bs) (k : Nat) (h : k < (str l).size) : (str l)[k]'h = l[k]'(by rwa [str_size] at h) := by
  show (str l).data[k]'_ = _
  simp only [str, List.getElem_toArray]

theorem isName_cons (c : UInt8) (r : Bs) : isName (c :: r) = (decide (r.length < 24) && letter c && (c :: r).all idc && decide (c :: r ≠ wmin) && decide (c :: r ≠ wmax) && decide (c :: r ≠ wif)) := rfl

theorem name_all (s : Bs) (k : Nat) (h : k < s.length) (hc : idc s[k] = false) : isName s = false := by
  match s, h, hc with
  | c :: r, h, hc =>
    have ha : (c :: r).all idc = false := by
      rw [List.all_eq_false]
      exact ⟨(c :: r)[k], List.getElem_mem h, by rw [hc]; decide⟩
    rw [isName_cons, ha]
    simp

theorem name_yes (s : Bs) (hp : 0 < s.length) (hl : letter (s[0]'hp) = true) (ha : s.all idc = true) (k1 : s ≠ wmin) (k2 : s ≠ wmax) (k3 : s ≠ wif) (h24 : s.length ≤ 24) : isName s = true := by
  match s, hp, hl, ha, k1, k2, k3, h24 with
  | c :: r, hp, hl, ha, k1, k2, k3, h24 =>
    rw [isName_cons, ha, show letter c = true from hl, decide_eq_true k1, decide_eq_true k2, decide_eq_true k3, decide_eq_true (by rw [List.length_cons] at h24; omega)]
    rfl

theorem idc_of (c : UInt8) : idc c = (letter c || digit c || decide (c = 95)) := rfl

theorem dig_small (n : Nat) (h : n < 10) : dig n = [UInt8.ofNat (48 + n)] := by unfold dig; rw [dif_pos h]
theorem dig_big (n : Nat) (h : ¬ n < 10) : dig n = dig (n / 10) ++ [UInt8.ofNat (48 + n % 10)] := by
  conv => lhs; unfold dig
  rw [dif_neg h]

theorem dig_length63 (n : Nat) (h : n ≤ 9223372036854775807) : (dig n).length ≤ 19 := by
  have key : ∀ d n, n < 10 ^ (d + 1) → (dig n).length ≤ d + 1 := by
    intro d
    induction d with
    | zero => intro n hn; unfold dig; rw [dif_pos (by omega)]; simp
    | succ d ih =>
      intro n hn
      unfold dig
      split
      · simp
      · rw [List.length_append]
        have := ih (n / 10) (by rw [Nat.div_lt_iff_lt_mul (by decide)]; rw [Nat.pow_succ] at hn; omega)
        simp only [List.length_cons, List.length_nil]; omega
  exact key 18 n (by omega)

theorem cell_kept {w w' : World} {g j : Nat} {u : Value} (hb : Below w.heap.size w w') (h : w.cell? ⟨g, j, none⟩ = some u) : w'.cell? ⟨g, j, none⟩ = some u :=
  ((bcell hb).1 _ _ (World.block_lt_of_cell? w _ h)).trans h

/-- How long a text may be. -/
theorem text_le (vs : List Bs) (V : Nat) (nv na : Int) (hna : na ≤ 9223372036854775807) (hV : ∀ s ∈ vs, s.length ≤ V) (e : Ex) (hw : WF nv na e) : (text vs e).length + 2 ≤ (V + 40) * (codeOf e).length := by
  unfold text
  induction e with
  | con n =>
    have hv := (isVal_iff n).1 hw
    have := dig_length n.natAbs (by omega)
    unfold pieces codeOf
    split <;> simp <;> omega
  | var k =>
    have hl : (vs.getD k []).length ≤ V := by
      rw [List.getD_eq_getElem?_getD]
      cases h : vs[k]? with
      | none => simp
      | some s => exact hV s (List.mem_of_getElem? h)
    unfold pieces codeOf
    simp at hl ⊢; omega
  | arg k =>
    have hk : (k : Int) < na := hw
    have := dig_length63 k (by omega)
    unfold pieces codeOf
    simp; omega
  | un o a ih =>
    have ih := ih hw.2
    have hw' := wrap_length (rank a) 6 (pieces vs a)
    unfold pieces codeOf
    simp only [List.length_append, List.length_cons, List.length_nil, Nat.mul_add]
    split
    · split
      · simp at ih ⊢; omega
      · simp at ih hw' ⊢; omega
    · simp at ih hw' ⊢; omega
  | ite a b c iha ihb ihc =>
    have iha := iha hw.1
    have ihb := ihb hw.2.1
    have ihc := ihc hw.2.2
    unfold pieces codeOf
    simp only [List.length_append, List.length_cons, List.length_nil, Nat.mul_add]
    simp [wif] at iha ihb ihc ⊢; omega
  | bin o a b iha ihb =>
    have iha := iha hw.2.1
    have ihb := ihb hw.2.2
    have hs := sign_length o
    unfold pieces codeOf
    simp only [List.length_append, List.length_cons, List.length_nil, Nat.mul_add]
    split
    · have hw' : (if o = 9 then wmin else wmax).length = 3 := by split <;> rfl
      simp only [List.flatten_append, List.flatten_cons, List.flatten_nil, List.length_append, hw', List.length_cons, List.length_nil]
      omega
    · have h1 := wrap_length (rank a) (if rank (.bin o a b) = 3 then 4 else rank (.bin o a b)) (pieces vs a)
      have h2 := wrap_length (rank b) (rank (.bin o a b) + 1) (pieces vs b)
      simp only [List.flatten_append, List.flatten_cons, List.flatten_nil, List.length_append, List.length_cons, List.length_nil]
      omega

/-- A list of texts in a slice. -/
def Names (w : World) (v : Value) (vs : List Bs) : Prop := Sl w v (vs.map sv)

/-- A text with brackets around it, if it must be. -/
def shw (vs : List Bs) (e : Ex) (least : Nat) : Bs := if rank e < least then [40] ++ text vs e ++ [41] else text vs e
theorem shw_eq (vs : List Bs) (e : Ex) (least : Nat) : (wrap (rank e) least (pieces vs e)).flatten = shw vs e least := by
  unfold wrap shw text
  split <;> simp


/-- The signs, by instructions. -/
def signL : List Bs := [[], [], [], [], [45], [33], [43], [45], [42], wmin, wmax, [60], [60, 61], [61], [38], [124], wif]
/-- What the package's variables hold from the start. -/
structure Glob (w : World) : Prop where
  signs : ∃ (T : TypeId) (fr : Nat × Nat), w.heap[1]? = some (.cells (signL.map sv).toArray T fr)
  tens : Lib.TabIs Tryz.prog w "internal/strconv.uint64pow10" .u64 Lib.pow10Tab

theorem gTens : Tryz.prog.globalNamed "internal/strconv.uint64pow10" = some 4 := by kernel_rfl
theorem Glob.below {w w' : World} (h : Glob w) (hb : Below w.heap.size w w') : Glob w' := by
  obtain ⟨⟨T, fr, hs⟩, ht⟩ := h
  exact ⟨⟨T, fr, (hb.block _ (Array.getElem?_eq_some_iff.1 hs).1).trans hs⟩, Joins.tab_stays gTens ht hb (Nat.le_refl _)⟩
theorem Glob.cell {w : World} (h : Glob w) (j : Nat) (l : Bs) (hl : signL[j]? = some l) : w.cell? ⟨1, j, none⟩ = some (sv l) := by
  obtain ⟨⟨T, fr, hs⟩, _⟩ := h
  rw [cell_of_row _ _ _ _ _ _ hs]
  simp [hl]
end Go.Proofs.YtfooiggedgcjcaaGreatDoor.I

namespace Go.Proofs.YtfooiggedgcjcaaGreatDoor.R
open Go Go.RowKit Go.Proofs.YtfooiggedgcjcaaGreatDoor.B Go.Proofs.YtfooiggedgcjcaaGreatDoor.K Go.Proofs.YtfooiggedgcjcaaGreatDoor.E
set_option linter.unusedVariables false

/-- The error, the rule, the part, the place. -/
abbrev Ft := Int × Int × Int × Int
def Ft.v (f : Ft) : Value := .agg #[.int .i64 f.1, .int .i64 f.2.1, .int .i64 f.2.2.1, .int .i64 f.2.2.2]

/-- The first place from k on, of n, at which something is wrong. -/
def firstBad (f : Nat → Int) : Nat → Nat → Option (Nat × Int)
  | _, 0 => none
  | k, n + 1 => if f k ≠ 0 then some (k, f k) else firstBad f (k + 1) n

structure Pt where
  number : Int
  whole : Int
  places : Nat
  wrong : Nat → Int

def ff (rule : Int) : List Pt → Ft
  | [] => (0, 0, 0, 0)
  | p :: r => if p.whole ≠ 0 then (p.whole, rule, p.number, 0) else match firstBad p.wrong 0 p.places with
    | some x => (x.2, rule, p.number, (x.1 : Int))
    | none => ff rule r

/-- The first place at which p holds; -1: there is none. -/
def idxP {X : Type} (p : X → Bool) (l : List X) : Int := match l.findIdx? p with
  | some k => (k : Int)
  | none => -1

def nameE (s : Bs) (ahead : Bool) : Int := if I.isName s = false then 6 else if ahead = true then 9 else 0
def placeE (n many : Int) (ahead : Bool) : Int := if 0 ≤ n ∧ n < many then (if ahead = true then 9 else 0) else 3
def countE (n least most : Int) : Int := if most < n then 4 else if n < least then 2 else 0
def unlessE (b : Bool) (e : Int) : Int := if b = true then 0 else e

def nameBad (l : List Bs) (k : Nat) : Int := match l[k]? with
  | some s => nameE s ((l.take k).any fun x => x == s)
  | none => 0
def startBad (l : List Int) (k : Nat) : Int := match l[k]? with
  | some x => unlessE (isVal x) 3
  | none => 0
def fromBad (S : Int) (l : List Int) (k : Nat) : Int := match l[k]? with
  | some x => placeE x S ((l.take k).any fun y => y == x)
  | none => 0
def guardBad (V A : Int) (l : List Gd) (k : Nat) : Int := match l[k]? with
  | some g => if g.code < 16 ∨ 63 < g.code then 3 else (check g.test V A).2
  | none => 0
def setBad (V A : Int) (l : List Se) (k : Nat) : Int := match l[k]? with
  | some s => if placeE s.var V ((l.take k).any fun y => y.var == s.var) ≠ 0 then placeE s.var V ((l.take k).any fun y => y.var == s.var) else (check s.value V A).2
  | none => 0
def badE : Option (Nat × Int) → Int
  | some x => x.2
  | none => 0
def spBad (S V A : Int) (p : Sp) : Int := if S ≤ p.to then 3 else badE (firstBad (setBad V A p.sets) 0 p.sets.length)
def stepBad (S V A : Int) (l : List Sp) (k : Nat) : Int := match l[k]? with
  | some p => spBad S V A p
  | none => 0

def tableParts (t : Tb) : List Pt := [
  ⟨1, countE t.states.length 1 8, t.states.length, nameBad t.states⟩,
  ⟨2, countE t.vars.length 0 6, t.vars.length, nameBad t.vars⟩,
  ⟨3, unlessE (decide ((t.start.length : Int) = t.vars.length)) 2, t.start.length, startBad t.start⟩,
  ⟨4, countE t.rules.length 0 12, 0, fun _ => 0⟩]
def ruleParts (t : Tb) (n : Nat) (r : Rl) : List Pt := [
  ⟨5, nameE r.name ((t.rules.take n).any fun x => x.name == r.name), 0, fun _ => 0⟩,
  ⟨6, unlessE (decide (0 ≤ r.args ∧ r.args ≤ 4)) 3, 0, fun _ => 0⟩,
  ⟨7, 0, r.from_.length, fromBad t.states.length r.from_⟩,
  ⟨8, countE r.guards.length 0 4, r.guards.length, guardBad t.vars.length r.args r.guards⟩,
  ⟨9, countE r.steps.length 1 3, r.steps.length, stepBad t.states.length t.vars.length r.args r.steps⟩]

/-- The faults of the rules from one on. -/
def ffRules (t : Tb) : Nat → Nat → Ft
  | _, 0 => (0, 0, 0, 0)
  | n, m + 1 => match t.rules[n]? with
    | some r => if ff n (ruleParts t n r) ≠ (0, 0, 0, 0) then ff n (ruleParts t n r) else ffRules t (n + 1) m
    | none => (0, 0, 0, 0)

/-- P5.1. -/
def chk5 (t : Tb) : Ft := if ff (-1) (tableParts t) ≠ (0, 0, 0, 0) then ff (-1) (tableParts t) else ffRules t 0 t.rules.length

theorem findIdx_some {X : Type} (p : X → Bool) (l : List X) (K : Nat) (x : X) (hx : l[K]? = some x) (hp : p x = true) (h : ∀ (j : Nat) y, j < K → l[j]? = some y → p y = false) : l.findIdx? p = some K := by
  obtain ⟨hk, e⟩ := List.getElem?_eq_some_iff.1 hx
  rw [List.findIdx?_eq_some_iff_getElem]
  refine ⟨hk, by rw [e]; exact hp, fun j hj => ?_⟩
  rw [h j _ hj (List.getElem?_eq_getElem (Nat.lt_trans hj hk))]
  decide

theorem findIdx_none {X : Type} (p : X → Bool) (l : List X) (h : ∀ (j : Nat) y, l[j]? = some y → p y = false) : l.findIdx? p = none := by
  rw [List.findIdx?_eq_none_iff]
  intro x hx
  obtain ⟨j, hj, rfl⟩ := List.getElem_of_mem hx
  exact h j _ (List.getElem?_eq_getElem hj)

/-- Of a list that has it at K, the first place is ahead of K just if one ahead has it, too. -/
theorem idxP_lt {X : Type} (p : X → Bool) (l : List X) (K : Nat) (x : X) (hx : l[K]? = some x) (hp : p x = true) : decide (idxP p l < (K : Int)) = (l.take K).any p := by
  unfold idxP
  cases h : l.findIdx? p with
  | none =>
    rw [List.findIdx?_eq_none_iff] at h
    have := h x (List.mem_of_getElem? hx)
    rw [hp] at this; cases this
  | some k =>
    rw [List.findIdx?_eq_some_iff_getElem] at h
    obtain ⟨hk, hpk, hmin⟩ := h
    rw [Bool.eq_iff_iff, decide_eq_true_iff, List.any_eq_true]
    constructor
    · intro hlt
      have hlt : (k : Int) < (K : Int) := hlt
      exact ⟨l[k], List.mem_of_getElem? (i := k) (by rw [List.getElem?_take, if_pos (by omega)]; exact List.getElem?_eq_getElem hk), hpk⟩
    · rintro ⟨y, hy, hpy⟩
      obtain ⟨j, hj, rfl⟩ := List.getElem_of_mem hy
      rw [List.length_take] at hj
      rw [List.getElem_take] at hpy
      have : ¬ j < k := fun hjk => by have := hmin j hjk; rw [hpy] at this; exact this rfl
      show (k : Int) < (K : Int)
      omega

theorem idxP_range {X : Type} (p : X → Bool) (l : List X) : -1 ≤ idxP p l ∧ idxP p l ≤ l.length := by
  unfold idxP
  cases h : l.findIdx? p with
  | none => simp only; omega
  | some k =>
    rw [List.findIdx?_eq_some_iff_getElem] at h
    have := h.1
    simp only; omega

theorem idxP_neg {X : Type} (p : X → Bool) (l : List X) : decide (0 ≤ idxP p l) = l.any p := by
  unfold idxP
  cases h : l.findIdx? p with
  | none =>
    rw [List.findIdx?_eq_none_iff] at h
    rw [Bool.eq_iff_iff, decide_eq_true_iff, List.any_eq_true]
    constructor
    · intro h0; exact absurd h0 (by decide)
    · rintro ⟨x, hx, hp⟩; rw [h x hx] at hp; cases hp
  | some k =>
    rw [List.findIdx?_eq_some_iff_getElem] at h
    obtain ⟨hk, hpk, _⟩ := h
    rw [Bool.eq_iff_iff, decide_eq_true_iff, List.any_eq_true]
    exact ⟨fun _ => ⟨_, List.getElem_mem hk, hpk⟩, fun _ => by simp only; omega⟩

theorem firstBad_at (f : Nat → Int) (k n : Nat) : firstBad f k (n + 1) = if f k ≠ 0 then some (k, f k) else firstBad f (k + 1) n := rfl

theorem firstBad_ne (f : Nat → Int) : ∀ n k x, firstBad f k n = some x → x.2 ≠ 0
  | 0, k, x, h => by cases h
  | n + 1, k, x, h => by
    rw [firstBad_at] at h
    split at h
    · cases h; assumption
    · exact firstBad_ne f n (k + 1) x h

theorem firstBad_none (f : Nat → Int) : ∀ n k, firstBad f k n = none ↔ ∀ j, k ≤ j → j < k + n → f j = 0
  | 0, k => ⟨fun _ j h1 h2 => by omega, fun _ => rfl⟩
  | n + 1, k => by
    rw [firstBad_at]
    split
    · rename_i h
      exact ⟨fun e => (by cases e), fun e => absurd (e k (Nat.le_refl _) (by omega)) h⟩
    · rename_i h
      rw [firstBad_none f n (k + 1)]
      constructor
      · intro g j h1 h2
        rcases Nat.eq_or_lt_of_le h1 with rfl | h3
        · exact Decidable.not_not.1 h
        · exact g j h3 (by omega)
      · intro g j h1 h2
        exact g j (by omega) (by omega)

theorem ff_zero (rule : Int) : ∀ l : List Pt, ff rule l = (0, 0, 0, 0) ↔ ∀ p ∈ l, p.whole = 0 ∧ ∀ j, j < p.places → p.wrong j = 0
  | [] => ⟨fun _ p h => (by cases h), fun _ => rfl⟩
  | p :: r => by
    unfold ff
    split
    · rename_i h
      exact ⟨fun e => absurd (congrArg (·.1) e) h, fun e => absurd (e p List.mem_cons_self).1 h⟩
    · rename_i h
      have h0 := Decidable.not_not.1 h
      cases hf : firstBad p.wrong 0 p.places with
      | some x =>
        have hx := firstBad_ne _ _ _ _ hf
        refine ⟨fun e => absurd (congrArg (·.1) e) hx, fun e => ?_⟩
        have := (firstBad_none p.wrong p.places 0).2 (fun j _ hj => (e p List.mem_cons_self).2 j (by omega))
        rw [this] at hf; cases hf
      | none =>
        simp only
        rw [ff_zero rule r]
        have hn := (firstBad_none p.wrong p.places 0).1 hf
        constructor
        · intro g q hq
          rcases List.mem_cons.1 hq with rfl | hq
          · exact ⟨h0, fun j hj => hn j (Nat.zero_le _) (by omega)⟩
          · exact g q hq
        · exact fun g q hq => g q (List.mem_cons_of_mem _ hq)

theorem ffRules_zero (t : Tb) : ∀ m n, n + m = t.rules.length → (ffRules t n m = (0, 0, 0, 0) ↔ ∀ k r, n ≤ k → t.rules[k]? = some r → ff k (ruleParts t k r) = (0, 0, 0, 0))
  | 0, n, h => ⟨fun _ k r h1 h2 => by have := (List.getElem?_eq_some_iff.1 h2).1; omega, fun _ => rfl⟩
  | m + 1, n, h => by
    obtain ⟨r, hr⟩ : ∃ r, t.rules[n]? = some r := ⟨_, List.getElem?_eq_getElem (by omega)⟩
    unfold ffRules
    rw [hr]
    simp only
    split
    · rename_i hne
      exact ⟨fun e => absurd e hne, fun e => absurd (e n r (Nat.le_refl _) hr) hne⟩
    · rename_i hz
      have hz := Decidable.not_not.1 hz
      rw [ffRules_zero t m (n + 1) (by omega)]
      constructor
      · intro g k x h1 h2
        rcases Nat.eq_or_lt_of_le h1 with rfl | h3
        · rw [hr] at h2; cases h2; exact hz
        · exact g k x h3 h2
      · exact fun g k x h1 h2 => g k x (by omega) h2

/-- What a table that may be is. -/
theorem chk5_zero (t : Tb) : chk5 t = (0, 0, 0, 0) ↔ (∀ p ∈ tableParts t, p.whole = 0 ∧ ∀ j, j < p.places → p.wrong j = 0) ∧ ∀ k r, t.rules[k]? = some r → ∀ p ∈ ruleParts t k r, p.whole = 0 ∧ ∀ j, j < p.places → p.wrong j = 0 := by
  unfold chk5
  split
  · rename_i h
    exact ⟨fun e => absurd e h, fun e => absurd ((ff_zero _ _).2 e.1) h⟩
  · rename_i h
    have h0 := (ff_zero _ _).1 (Decidable.not_not.1 h)
    rw [ffRules_zero t _ 0 (by omega)]
    constructor
    · exact fun g => ⟨h0, fun k r hr => (ff_zero _ _).1 (g k r (Nat.zero_le _) hr)⟩
    · exact fun g k r _ hr => (ff_zero _ _).2 (g.2 k r hr)
end Go.Proofs.YtfooiggedgcjcaaGreatDoor.R

namespace Go.Proofs.YtfooiggedgcjcaaGreatDoor.R
open Go Go.RowKit Go.Proofs.YtfooiggedgcjcaaGreatDoor.B Go.Proofs.YtfooiggedgcjcaaGreatDoor.K Go.Proofs.YtfooiggedgcjcaaGreatDoor.E
set_option linter.unusedVariables false

theorem countE_zero {n a b : Int} (h : countE n a b = 0) : a ≤ n ∧ n ≤ b := by
  unfold countE at h
  split at h
  · cases h
  · split at h
    · cases h
    · omega

theorem placeE_zero {n m : Int} {b : Bool} (h : placeE n m b = 0) : 0 ≤ n ∧ n < m ∧ b = false := by
  unfold placeE at h
  split at h
  · rename_i h1
    split at h
    · cases h
    · rename_i h2; exact ⟨h1.1, h1.2, by simpa using h2⟩
  · cases h

theorem unlessE_zero {b : Bool} {e : Int} (he : e ≠ 0) (h : unlessE b e = 0) : b = true := by
  unfold unlessE at h
  split at h
  · assumption
  · exact absurd h he

theorem nameE_zero {s : Bs} {b : Bool} (h : nameE s b = 0) : I.isName s = true ∧ b = false := by
  unfold nameE at h
  split at h
  · cases h
  · rename_i h1
    split at h
    · cases h
    · rename_i h2; exact ⟨by simpa using h1, by simpa using h2⟩

/-- What is needed of a table that may be. -/
structure Fine (t : Tb) : Prop where
  states : 0 < t.states.length ∧ t.states.length ≤ 8
  vars : t.vars.length ≤ 6
  rules : t.rules.length ≤ 12
  from_ : ∀ r ∈ t.rules, r.from_.length ≤ 8 ∧ ∀ x ∈ r.from_, 0 ≤ x ∧ x < t.states.length
  guards : ∀ r ∈ t.rules, r.guards.length ≤ 4 ∧ ∀ g ∈ r.guards, (check g.test t.vars.length r.args).2 = 0
  steps : ∀ r ∈ t.rules, r.steps.length ≤ 3 ∧ ∀ p ∈ r.steps, p.to < t.states.length
  sets : ∀ r ∈ t.rules, ∀ p ∈ r.steps, ∀ s ∈ p.sets, (0 ≤ s.var ∧ s.var < t.vars.length) ∧ (check s.value t.vars.length r.args).2 = 0

theorem badE_zero {f : Nat → Int} {k n : Nat} (h : badE (firstBad f k n) = 0) : firstBad f k n = none := by
  cases hx : firstBad f k n with
  | none => rfl
  | some x => rw [hx] at h; exact absurd h (firstBad_ne f n k x hx)

theorem pigeon : ∀ (S : Nat) (l : List Int), (∀ x ∈ l, 0 ≤ x ∧ x < (S : Int)) → l.Nodup → l.length ≤ S
  | 0, [], _, _ => Nat.le_refl _
  | 0, x :: l, h, _ => by have := h x List.mem_cons_self; omega
  | S + 1, l, h, hn => by
    have h1 : (l.erase (S : Int)).length ≤ S := pigeon S _ (fun x hx => by
      have hx' := (List.Nodup.mem_erase_iff hn).1 hx
      have := h x hx'.2
      have : x ≠ (S : Int) := hx'.1
      omega) (hn.erase _)
    by_cases hm : (S : Int) ∈ l
    · have := List.length_erase_of_mem hm
      omega
    · rw [List.erase_of_not_mem hm] at h1; omega

theorem nodup_of {X : Type} [BEq X] [LawfulBEq X] : ∀ (l : List X), (∀ (k : Nat) x, l[k]? = some x → ((l.take k).any fun y => y == x) = false) → l.Nodup := by
  intro l h
  rw [List.nodup_iff_pairwise_ne, List.pairwise_iff_getElem]
  intro i j hi hj hij e
  have := h j _ (List.getElem?_eq_getElem hj)
  rw [List.any_eq_false] at this
  refine this l[i] (List.mem_of_getElem? (i := i) (by rw [List.getElem?_take, if_pos hij]; exact List.getElem?_eq_getElem hi)) ?_
  rw [e]; exact beq_self_eq_true _

theorem fine_of {t : Tb} (h : chk5 t = (0, 0, 0, 0)) : Fine t := by
  obtain ⟨ht, hr⟩ := (chk5_zero t).1 h
  have p0 := ht _ (show (⟨1, countE t.states.length 1 8, t.states.length, nameBad t.states⟩ : Pt) ∈ tableParts t by simp [tableParts])
  have p1 := ht _ (show (⟨2, countE t.vars.length 0 6, t.vars.length, nameBad t.vars⟩ : Pt) ∈ tableParts t by simp [tableParts])
  have p3 := ht _ (show (⟨4, countE t.rules.length 0 12, 0, fun _ => 0⟩ : Pt) ∈ tableParts t by simp [tableParts])
  have q0 := countE_zero p0.1
  have q1 := countE_zero p1.1
  have q3 := countE_zero p3.1
  have hfrom : ∀ r ∈ t.rules, ∀ (j : Nat) x, r.from_[j]? = some x → placeE x t.states.length ((r.from_.take j).any fun y => y == x) = 0 := by
    intro r hrm j x hx
    obtain ⟨k, hk⟩ := List.getElem?_of_mem hrm
    have := (hr k r hk ⟨7, 0, r.from_.length, fromBad t.states.length r.from_⟩ (by simp [ruleParts])).2 j (List.getElem?_eq_some_iff.1 hx).1
    simp only [fromBad, hx] at this
    exact this
  have hguard : ∀ r ∈ t.rules, (0 : Int) ≤ r.guards.length ∧ (r.guards.length : Int) ≤ 4 ∧ ∀ (j : Nat), j < r.guards.length → guardBad t.vars.length r.args r.guards j = 0 := by
    intro r hrm
    obtain ⟨k, hk⟩ := List.getElem?_of_mem hrm
    have := hr k r hk ⟨8, countE r.guards.length 0 4, r.guards.length, guardBad t.vars.length r.args r.guards⟩ (by simp [ruleParts])
    have q := countE_zero this.1
    exact ⟨q.1, q.2, this.2⟩
  have hstep : ∀ r ∈ t.rules, (r.steps.length : Int) ≤ 3 ∧ ∀ (j : Nat), j < r.steps.length → stepBad t.states.length t.vars.length r.args r.steps j = 0 := by
    intro r hrm
    obtain ⟨k, hk⟩ := List.getElem?_of_mem hrm
    have := hr k r hk ⟨9, countE r.steps.length 1 3, r.steps.length, stepBad t.states.length t.vars.length r.args r.steps⟩ (by simp [ruleParts])
    have q := countE_zero this.1
    exact ⟨q.2, this.2⟩
  have hsp : ∀ r ∈ t.rules, ∀ p ∈ r.steps, spBad t.states.length t.vars.length r.args p = 0 := by
    intro r hrm p hp
    obtain ⟨j, hj⟩ := List.getElem?_of_mem hp
    have := (hstep r hrm).2 j (List.getElem?_eq_some_iff.1 hj).1
    simp only [stepBad, hj] at this
    exact this
  refine ⟨⟨by omega, by omega⟩, by omega, by omega, fun r hrm => ⟨?_, ?_⟩, fun r hrm => ⟨by have := (hguard r hrm).2.1; omega, ?_⟩, fun r hrm => ⟨by have := (hstep r hrm).1; omega, ?_⟩, ?_⟩
  · refine Nat.le_trans (pigeon t.states.length r.from_ (fun x hx => ?_) (nodup_of r.from_ fun k x hx => (placeE_zero (hfrom r hrm k x hx)).2.2)) (by omega)
    obtain ⟨j, hj⟩ := List.getElem?_of_mem hx
    have := placeE_zero (hfrom r hrm j x hj)
    exact ⟨this.1, this.2.1⟩
  · intro x hx
    obtain ⟨j, hj⟩ := List.getElem?_of_mem hx
    have := placeE_zero (hfrom r hrm j x hj)
    exact ⟨this.1, this.2.1⟩
  · intro g hg
    obtain ⟨j, hj⟩ := List.getElem?_of_mem hg
    have := (hguard r hrm).2.2 j (List.getElem?_eq_some_iff.1 hj).1
    simp only [guardBad, hj] at this
    split at this
    · cases this
    · exact this
  · intro p hp
    have := hsp r hrm p hp
    unfold spBad at this
    split at this
    · cases this
    · omega
  · intro r hrm p hp s hs
    have := hsp r hrm p hp
    unfold spBad at this
    split at this
    · cases this
    · have hb := (firstBad_none _ _ _).1 (badE_zero this)
      obtain ⟨j, hj⟩ := List.getElem?_of_mem hs
      have := hb j (Nat.zero_le _) (by have := (List.getElem?_eq_some_iff.1 hj).1; omega)
      simp only [setBad, hj] at this
      split at this
      · rename_i hne; exact absurd this hne
      · rename_i hz
        have hz := placeE_zero (Decidable.not_not.1 hz)
        exact ⟨⟨hz.1, hz.2.1⟩, this⟩

end Go.Proofs.YtfooiggedgcjcaaGreatDoor.R

namespace Go.Proofs.YtfooiggedgcjcaaGreatDoor.I
open Go Go.Proofs.YtfooiggedgcjcaaGreatDoor.E
set_option linter.unusedVariables false

/-- The expression of instructions. -/
def exOf (code : List In) : Ex := match code.foldl push [] with | e :: _ => e | [] => .con 0

/-- P4.3. -/
def showOf (vs : List Bs) (na : Int) (code : List In) : Bs × Int :=
  if (check code vs.length na).2 ≠ 0 then ([], (check code vs.length na).2) else (text vs (exOf code), 0)

theorem exOf_is (code : List In) (nv na : Int) (h : (check code nv na).2 = 0) : WF nv na (exOf code) ∧ codeOf (exOf code) = code := by
  obtain ⟨e, hw, hc⟩ := ex_of code nv na h
  have h1 := push_code nv na e hw []
  rw [hc] at h1
  have he : exOf code = e := by unfold exOf; rw [h1]
  rw [he]
  exact ⟨hw, hc⟩

theorem showOf_bad (vs : List Bs) (na : Int) (code : List In) (h : (check code vs.length na).2 ≠ 0) : showOf vs na code = ([], (check code vs.length na).2) := by unfold showOf; rw [if_pos h]
theorem showOf_good (vs : List Bs) (na : Int) (code : List In) (h : (check code vs.length na).2 = 0) : showOf vs na code = (text vs (exOf code), 0) := by unfold showOf; rw [if_neg (by omega)]
end Go.Proofs.YtfooiggedgcjcaaGreatDoor.I

namespace Go.Proofs.YtfooiggedgcjcaaGreatDoor.T
open Go Go.Proofs.YtfooiggedgcjcaaGreatDoor.E Go.Proofs.YtfooiggedgcjcaaGreatDoor.R
set_option linter.unusedVariables false

/-! ## The text of a table -/

/-- Words, each behind a blank. -/
def behind (l : List Bs) : Bs := l.flatMap fun s => 32 :: s
def num (n : Int) : Bs := if n < 0 then 45 :: I.dig n.natAbs else I.dig n.natAbs
def wStates : Bs := [115, 116, 97, 116, 101, 115]
def wVars : Bs := [118, 97, 114, 115]
def wRule : Bs := [114, 117, 108, 101]
def wFrom : Bs := [102, 114, 111, 109]
def wGuard : Bs := [103, 117, 97, 114, 100]
def wStep : Bs := [115, 116, 101, 112]
def wSet : Bs := [58, 61]

/-- The name that stands at a number. -/
def at_ (l : List Bs) (k : Int) : Bs := l.getD k.toNat []
def starts (t : Tb) : List Bs := (t.vars.zip t.start).map fun p => p.1 ++ 61 :: num p.2
def lnStates (t : Tb) : Bs := wStates ++ behind t.states
def lnVars (t : Tb) : Bs := wVars ++ behind (starts t)
def lnRule (t : Tb) (r : Rl) : Bs := wRule ++ behind (r.name :: num r.args :: (if r.from_.isEmpty then [] else wFrom :: r.from_.map (at_ t.states)))
def expr (t : Tb) (r : Rl) (c : List In) : Bs := (I.showOf t.vars r.args c).1
def lnGuard (t : Tb) (r : Rl) (g : Gd) : Bs := wGuard ++ behind [num g.code, expr t r g.test]
def setText (t : Tb) (r : Rl) (s : Se) : Bs := behind [at_ t.vars s.var, wSet, expr t r s.value]
def toText (t : Tb) (p : Sp) : Bs := if p.to < 0 then [45] else at_ t.states p.to
def lnStep (t : Tb) (r : Rl) (p : Sp) : Bs := wStep ++ behind [toText t p] ++ Lib.join (p.sets.map (setText t r)) [59]
def rlLines (t : Tb) (r : Rl) : List Bs := lnRule t r :: (r.guards.map (lnGuard t r) ++ r.steps.map (lnStep t r))
def lines (t : Tb) : List Bs := lnStates t :: lnVars t :: t.rules.flatMap (rlLines t)
def shownT (t : Tb) : Bs := (lines t).flatMap fun l => l ++ [10]

/-! ## What a text says -/

abbrev trim (s : Bs) : Bs := Lib.trimB s 32
abbrev trimL (s : Bs) : Bs := Lib.trimLeftB s 32
abbrev trimR (s : Bs) : Bs := Lib.trimRightB s 32
/-- What stands ahead of the first such byte, and behind it. -/
def upTo (c : UInt8) (s : Bs) : Bs := s.takeWhile (· != c)
def past (c : UInt8) (s : Bs) : Bs := (s.dropWhile (· != c)).drop 1
def hasB (c : UInt8) (s : Bs) : Bool := s.any (· == c)
def wd (s : Bs) : Bs := upTo 32 s
def nx (s : Bs) : Bs := trimL (past 32 s)
def pc (s : Bs) : Bs := trimR (upTo 59 s)
def pnx (s : Bs) : Bs := trimL (past 59 s)

theorem trimL_le (s : Bs) : (trimL s).length ≤ s.length := (List.dropWhile_suffix _).length_le
theorem past_lt (c : UInt8) (s : Bs) (h : s ≠ []) : (past c s).length < s.length := by
  unfold past
  rw [List.length_drop]
  have := (List.dropWhile_suffix (l := s) (· != c)).length_le
  have : 0 < s.length := List.length_pos_iff.2 h
  omega
theorem nx_lt (s : Bs) (h : s ≠ []) : (nx s).length < s.length := Nat.lt_of_le_of_lt (trimL_le _) (past_lt 32 s h)
theorem pnx_lt (s : Bs) (h : s ≠ []) : (pnx s).length < s.length := Nat.lt_of_le_of_lt (trimL_le _) (past_lt 59 s h)
theorem nx_nil : nx [] = [] := rfl

/-- A line's words; of a line that has ended: an empty one. -/
def words (s : Bs) : List Bs := wd s :: (if h : nx s = [] then [] else words (nx s))
termination_by s.length
decreasing_by exact nx_lt s (fun e => h (by rw [e]; rfl))

def numOf (w : Bs) (least : Int) : Int × Int := match Lib.atoiAll w with
  | .ok n => if num n = w ∧ least ≤ n ∧ n ≤ 1099511627776 then (n, 0) else (0, 6)
  | _ => (0, 6)
def findN (l : List Bs) (w : Bs) : Int × Int := if I.isName w = false then (0, 6) else match l.findIdx? (· == w) with
  | some k => ((k : Int), 0)
  | none => (0, 8)

/-- What an expression's text says: its instructions and the error. -/
abbrev Ip := Bs → List Bs → Int → Option (List In × Int)
/-- What a line makes of a table, or its error. -/
abbrev Ln := Except Int Tb

def stLine (t : Tb) (s : Bs) : Ln := if (words s).all I.isName then .ok { t with states := t.states ++ words s } else .error 6
def vrItem (w : Bs) : Option (Bs × Int) := if (numOf (past 61 w) (-1099511627776)).2 = 0 ∧ I.isName (upTo 61 w) = true then some (upTo 61 w, (numOf (past 61 w) (-1099511627776)).1) else none
def vrItems : List Bs → Option (List (Bs × Int))
  | [] => some []
  | w :: r => match vrItem w with
    | none => none
    | some p => (vrItems r).map (p :: ·)
def vrLine (t : Tb) (s : Bs) : Ln := match vrItems (if s = [] then [] else words s) with
  | some l => .ok { t with vars := t.vars ++ l.map (·.1), start := t.start ++ l.map (·.2) }
  | none => .error 6
def findAll (l : List Bs) : List Bs → Except Int (List Int)
  | [] => .ok []
  | w :: r => if (findN l w).2 ≠ 0 then .error (findN l w).2 else match findAll l r with
    | .ok x => .ok ((findN l w).1 :: x)
    | .error e => .error e
def rlFrom (t : Tb) (s : Bs) : Except Int (List Int) := if s = [] then .ok [] else if wd s ≠ wFrom then .error 6 else findAll t.states (words (nx s))
def rlLine (t : Tb) (s : Bs) : Ln :=
  if I.isName (wd s) = false then .error 6 else if (numOf (wd (nx s)) 0).2 ≠ 0 then .error (numOf (wd (nx s)) 0).2
  else match rlFrom t (nx (nx s)) with
    | .ok l => .ok { t with rules := t.rules ++ [⟨wd s, (numOf (wd (nx s)) 0).1, l, [], []⟩] }
    | .error e => .error e
/-- The rule that is read, changed. -/
def lastR (t : Tb) (f : Rl → Rl) : Tb := match t.rules.getLast? with
  | some r => { t with rules := t.rules.dropLast ++ [f r] }
  | none => t
def gdLine (ip : Ip) (t : Tb) (r : Rl) (s : Bs) : Option Ln :=
  if (numOf (wd s) 0).2 ≠ 0 then some (.error (numOf (wd s) 0).2) else match ip (nx s) t.vars r.args with
    | none => none
    | some x => if x.2 ≠ 0 then some (.error x.2) else some (.ok (lastR t fun r => { r with guards := r.guards ++ [⟨(numOf (wd s) 0).1, x.1⟩] }))
def oneSet (ip : Ip) (t : Tb) (r : Rl) (s : Bs) : Option (Except Int Se) :=
  if (findN t.vars (wd s)).2 ≠ 0 then some (.error (findN t.vars (wd s)).2) else if wd (nx s) ≠ wSet then some (.error 6) else match ip (pc (nx (nx s))) t.vars r.args with
    | none => none
    | some x => if x.2 ≠ 0 then some (.error x.2) else some (.ok ⟨(findN t.vars (wd s)).1, x.1⟩)
def setsOf (ip : Ip) (t : Tb) (r : Rl) : Nat → Bs → Option (Except Int (List Se))
  | 0, _ => none
  | n + 1, s => match oneSet ip t r s with
    | none => none
    | some (.error e) => some (.error e)
    | some (.ok x) => if hasB 59 (nx (nx s)) = true then (match setsOf ip t r n (pnx (nx (nx s))) with
        | none => none
        | some (.error e) => some (.error e)
        | some (.ok l) => some (.ok (x :: l)))
      else some (.ok [x])
def goesTo (t : Tb) (w : Bs) : Int × Int := if w = [45] then (-1, 0) else findN t.states w
def spLine (ip : Ip) (t : Tb) (r : Rl) (s : Bs) : Option Ln :=
  if (goesTo t (wd s)).2 ≠ 0 then some (.error (goesTo t (wd s)).2) else match (if nx s = [] then some (.ok []) else setsOf ip t r (s.length + 1) (nx s)) with
    | none => none
    | some (.error e) => some (.error e)
    | some (.ok l) => some (.ok (lastR t fun r => { r with steps := r.steps ++ [⟨l, (goesTo t (wd s)).1⟩] }))

/-- What a line says; s: without blanks at its ends, and not empty. -/
def line (ip : Ip) (t : Tb) (said : Nat) (s : Bs) : Option Ln :=
  if wd s = wStates ∧ said = 0 then some (stLine t (nx s))
  else if wd s = wVars ∧ said = 1 then some (vrLine t (nx s))
  else if wd s = wRule ∧ 2 ≤ said then some (rlLine t (nx s))
  else match t.rules.getLast? with
    | none => some (.error 6)
    | some r => if wd s = wGuard ∧ r.steps = [] then gdLine ip t r (nx s) else if wd s = wStep then spLine ip t r (nx s) else some (.error 6)

def empty : Tb := ⟨[], [], [], []⟩
/-- The table, the line, the error. -/
def readL (ip : Ip) : List Bs → Nat → Tb → Nat → Option (Tb × Nat × Int)
  | [], n, t, said => if said < 2 then some (empty, n, 6) else some (t, 0, 0)
  | x :: r, n, t, said => if trim x = [] then readL ip r (n + 1) t said else match line ip t said (trim x) with
    | none => none
    | some (.error e) => some (empty, n, e)
    | some (.ok u) => readL ip r (n + 1) u (said + 1)
/-- A text's lines. -/
def cutL : Bs → Bs → List Bs
  | [], w => [w]
  | c :: r, w => if c = 10 then w :: cutL r [] else cutL r (w ++ [c])
def parseT (ip : Ip) (s : Bs) : Option (Tb × Nat × Int) := if 8192 < s.length then some (empty, 0, 4) else readL ip (cutL s []) 0 empty 0
end Go.Proofs.YtfooiggedgcjcaaGreatDoor.T
