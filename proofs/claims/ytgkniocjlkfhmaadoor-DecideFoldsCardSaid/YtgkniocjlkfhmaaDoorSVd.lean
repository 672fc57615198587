/-
  Layer 5: contracts of the reference: For, To, names, Reads, Writes.
  Plain mathematics of layer 5: which states can be reached.
  Plain mathematics of layer 5: what is wrong with a table.
  Plain mathematics of layer 5: going from state to state, each once; what a table that may be is like.
  Layer 7, plainly: what becomes of commands, and what events make of a state.
  Layer 7: states, events and commands in memory.
  Layer 7: states, commands and events that were handed over, as they read.
  The last step of every law: a call that returns true and leaves all that was there alone.
  Layer 7, the program's side: copied, areValues.
-/
import Derived.Test.YtgkniocjlkfhmaaDoorSVb
import Derived.Test.YtgkniocjlkfhmaaDoorProg
import Derived.Deep.QuietTactic
import Derived.BigQuiet
import Derived.Test.YtgkniocjlkfhmaaDoorSVa
import Derived.Test.YtgkniocjlkfhmaaDoorSVc
import Derived.ProofKit
import Derived.OpenShut
import Derived.JoinedCond
import Derived.Laws.CopyOwn
import Derived.Laws.MakeOwn
import Derived.WalkMore
namespace Go.Proofs.YtgkniocjlkfhmaaDoor.R
open Go Go.RowKit Go.Proofs.YtgkniocjlkfhmaaDoor.B Go.Proofs.YtgkniocjlkfhmaaDoor.K Go.Proofs.YtgkniocjlkfhmaaDoor.E
set_option linter.unusedVariables false

/-- Is a rule for a state? -/
def rlFor (r : Rl) (s : Int) : Bool := r.from_.isEmpty || r.from_.contains s
def isFor (t : Tb) (n s : Int) : Bool := decide (0 ≤ n ∧ 0 ≤ s ∧ s < t.states.length) && (match t.rules[n.toNat]? with
  | some r => rlFor r s
  | none => false)

theorem RlIs.open {w : World} {cs : List Value} {r : Rl} (h : RlIs w cs r) : ∃ f g s, cs = [sv r.name, .int .i64 r.args, f, g, s] ∧ SlN w f r.from_ ∧ SlOf w 2 (GdIs w) g r.guards ∧ SlOf w 2 (SpIs w) s r.steps := h

theorem for_step_yes (l : List Int) (K F : Nat) (q : Nat) (x : Int) (h : l[K]? = some x) (hq : x = (q : Int)) : ((F : Int) == 0 || (l.take (K + 1)).contains (q : Int)) = true := by
  rw [List.take_add_one, h]
  simp [hq]
theorem for_step_no (l : List Int) (K F : Nat) (q : Nat) (x : Int) (h : l[K]? = some x) (hq : ¬ x = (q : Int)) : ((F : Int) == 0 || (l.take (K + 1)).contains (q : Int)) = ((F : Int) == 0 || (l.take K).contains (q : Int)) := by
  rw [List.take_add_one, h]
  have : ¬ (q : Int) = x := fun e => hq e.symm
  simp [this]
theorem for_end (r : Rl) (q : Nat) : ((r.from_.length : Int) == 0 || r.from_.contains (q : Int)) = rlFor r q := by
  unfold rlFor
  cases r.from_ with
  | nil => rfl
  | cons x l =>
    congr 1

theorem isFor_no (t : Tb) (n s : Int) (h : ¬ (0 ≤ n ∧ n < t.rules.length ∧ 0 ≤ s ∧ s < t.states.length)) : isFor t n s = false := by
  unfold isFor
  by_cases h1 : 0 ≤ n ∧ 0 ≤ s ∧ s < t.states.length
  · have : t.rules[n.toNat]? = none := List.getElem?_eq_none (by omega)
    rw [this]; simp
  · rw [decide_eq_false h1]; rfl

theorem isFor_at (t : Tb) (n s : Nat) (r : Rl) (h : s < t.states.length) (hr : t.rules[n]? = some r) : isFor t n s = rlFor r s := by
  unfold isFor
  rw [decide_eq_true (by omega), Int.toNat_natCast, hr]
  rfl

/-- Where a rule leads. -/
def toAt (l : List Sp) (s : Int) : Nat → Int
  | 0 => s
  | K + 1 => match l[K]? with
    | some p => if 0 ≤ p.to then p.to else toAt l s K
    | none => toAt l s K
def toOf (r : Rl) (s : Int) : Int := toAt r.steps s r.steps.length

/-- Does an expression name a variable? -/
def nm (v : Int) (i : In) : Bool := i.1 == 2 && i.2 == v
def names (c : List In) (v : Int) : Bool := c.any (nm v)

theorem ret_i64 {a b : Int} (h : a = b) : Ending.returned (.int .i64 a) = .returned (.int .i64 b) := by rw [h]

end Go.Proofs.YtgkniocjlkfhmaaDoor.R

namespace Go.Proofs.YtgkniocjlkfhmaaDoor.R
open Go Go.RowKit Go.Proofs.YtgkniocjlkfhmaaDoor.B Go.Proofs.YtgkniocjlkfhmaaDoor.K Go.Proofs.YtgkniocjlkfhmaaDoor.E
set_option linter.unusedVariables false

/-- The steps of a table's rules go where there are states. -/
def Ranged (t : Tb) : Prop := 0 < t.states.length ∧ ∀ r ∈ t.rules, ∀ p ∈ r.steps, p.to < t.states.length

theorem toAt_range (l : List Sp) (S : Nat) (s : Nat) (hs : s < S) (h : ∀ p ∈ l, p.to < S) : ∀ K, 0 ≤ toAt l s K ∧ toAt l s K < S
  | 0 => ⟨by unfold toAt; omega, by unfold toAt; omega⟩
  | K + 1 => by
    unfold toAt
    have ih := toAt_range l S s hs h K
    cases hk : l[K]? with
    | none => exact ih
    | some p =>
      have := h p (List.mem_of_getElem? hk)
      simp only
      split
      · exact ⟨by assumption, this⟩
      · exact ih

/-- What can be reached. -/
inductive Reached (t : Tb) : Nat → Prop
  | first : Reached t 0
  | go (s : Nat) (r : Rl) : Reached t s → r ∈ t.rules → rlFor r s = true → Reached t (toOf r s).toNat

theorem toOf_range {t : Tb} (h : Ranged t) {r : Rl} (hr : r ∈ t.rules) {s : Nat} (hs : s < t.states.length) : 0 ≤ toOf r s ∧ toOf r s < t.states.length :=
  toAt_range r.steps t.states.length s hs (h.2 r hr) _

theorem Reached.lt {t : Tb} (h : Ranged t) {s : Nat} (hr : Reached t s) : s < t.states.length := by
  induction hr with
  | first => exact h.1
  | go s r _ hm _ ih => have := toOf_range h hm ih; omega

/-- One rule, tried in one state. -/
def upd (l : List Bool) (s : Nat) (r : Rl) : List Bool := if l.getD s false && rlFor r s then l.set (toOf r s).toNat true else l
/-- All rules, in one state; all states. -/
def updS (rs : List Rl) (l : List Bool) (s : Nat) : List Bool := rs.foldl (fun l r => upd l s r) l
def rnd (rs : List Rl) (S : Nat) (l : List Bool) : List Bool := (List.range S).foldl (updS rs) l

/-- Everything that is true in one is in the other. -/
def Le (a b : List Bool) : Prop := a.length = b.length ∧ ∀ i, a.getD i false = true → b.getD i false = true

theorem Le.refl (a : List Bool) : Le a a := ⟨rfl, fun _ h => h⟩
theorem Le.trans {a b c : List Bool} (h : Le a b) (g : Le b c) : Le a c := ⟨h.1.trans g.1, fun i x => g.2 i (h.2 i x)⟩
theorem Le.anti {a b : List Bool} (h : Le a b) (g : Le b a) : a = b := by
  apply List.ext_getElem h.1
  intro i h1 h2
  have x := h.2 i; have y := g.2 i
  simp only [List.getD_eq_getElem?_getD, List.getElem?_eq_getElem h1, List.getElem?_eq_getElem h2, Option.getD_some] at x y
  cases ha : a[i] <;> cases hb : b[i] <;> simp_all

theorem getD_set (l : List Bool) (k i : Nat) : (l.set k true).getD i false = (if k = i ∧ i < l.length then true else l.getD i false) := by
  simp only [List.getD_eq_getElem?_getD, List.getElem?_set]
  split
  · rename_i e
    subst e
    split
    · rename_i h; simp [h]
    · rename_i h; simp [h]
  · rename_i e; simp [e]

theorem le_set (l : List Bool) (k : Nat) : Le l (l.set k true) := by
  refine ⟨by rw [List.length_set], fun i h => ?_⟩
  rw [getD_set]
  split
  · rfl
  · exact h

theorem le_upd (l : List Bool) (s : Nat) (r : Rl) : Le l (upd l s r) := by
  unfold upd
  split
  · exact le_set _ _
  · exact Le.refl _

theorem le_fold {α : Type} (f : List Bool → α → List Bool) (h : ∀ l a, Le l (f l a)) : ∀ (xs : List α) (l : List Bool), Le l (xs.foldl f l)
  | [], l => Le.refl l
  | x :: xs, l => (h l x).trans (le_fold f h xs (f l x))

theorem le_updS (rs : List Rl) (l : List Bool) (s : Nat) : Le l (updS rs l s) := le_fold _ (fun l r => le_upd l s r) rs l
theorem le_rnd (rs : List Rl) (S : Nat) (l : List Bool) : Le l (rnd rs S l) := le_fold _ (fun l s => le_updS rs l s) _ l

/-- A fold that grows alone, and ends where it began, stood still at each step. -/
theorem still_fold {α : Type} (f : List Bool → α → List Bool) (h : ∀ l a, Le l (f l a)) : ∀ (xs : List α) (l : List Bool), xs.foldl f l = l → ∀ x ∈ xs, f l x = l
  | y :: xs, l, e, x, hx => by
    have h1 : f l y = l := ((h l y).anti (by have := le_fold f h xs (f l y); rw [List.foldl_cons] at e; rw [e] at this; exact this)).symm
    rw [List.foldl_cons, h1] at e
    rcases List.mem_cons.1 hx with rfl | hx
    · exact h1
    · exact still_fold f h xs l e x hx

/-- All that is told true can be reached. -/
def Sound (t : Tb) (l : List Bool) : Prop := ∀ i, l.getD i false = true → Reached t i

theorem sound_upd {t : Tb} {l : List Bool} {s : Nat} {r : Rl} (h : Sound t l) (hr : r ∈ t.rules) : Sound t (upd l s r) := by
  unfold upd
  split
  · rename_i hc
    simp only [Bool.and_eq_true] at hc
    intro i hi
    rw [getD_set] at hi
    split at hi
    · rename_i e
      rw [← e.1]
      exact .go s r (h s hc.1) hr hc.2
    · exact h i hi
  · exact h

theorem sound_fold {t : Tb} {s : Nat} : ∀ (rs : List Rl) (l : List Bool), (∀ r ∈ rs, r ∈ t.rules) → Sound t l → Sound t (rs.foldl (fun l r => upd l s r) l)
  | [], l, _, h => h
  | r :: rs, l, hm, h => sound_fold rs _ (fun x hx => hm x (List.mem_cons_of_mem _ hx)) (sound_upd h (hm r List.mem_cons_self))
theorem sound_range {t : Tb} : ∀ (ss : List Nat) (l : List Bool), Sound t l → Sound t (ss.foldl (updS t.rules) l)
  | [], l, h => h
  | s :: ss, l, h => sound_range ss _ (sound_fold (s := s) t.rules l (fun r hr => hr) h)

/-- A list that a round leaves as it is, is closed. -/
theorem closed_of_still {t : Tb} (hR : Ranged t) {l : List Bool} (hl : l.length = t.states.length) (h : rnd t.rules t.states.length l = l) (s : Nat) (r : Rl) (hr : r ∈ t.rules) (hs : l.getD s false = true) (hf : rlFor r s = true) : l.getD (toOf r s).toNat false = true := by
  have hsl : s < t.states.length := by
    rw [← hl]
    rcases Nat.lt_or_ge s l.length with h | h
    · exact h
    · rw [List.getD_eq_getElem?_getD, List.getElem?_eq_none h] at hs; cases hs
  have h1 := still_fold (updS t.rules) (fun l s => le_updS t.rules l s) _ l h s (List.mem_range.2 hsl)
  have h2 := still_fold (fun l r => upd l s r) (fun l r => le_upd l s r) t.rules l h1 r hr
  simp only [upd, hs, hf, Bool.and_self, if_true] at h2
  rw [← h2, getD_set]
  have := toOf_range hR hr hsl
  rw [if_pos ⟨rfl, by omega⟩]

def cnt (l : List Bool) : Nat := l.countP (· = true)
theorem cnt_le_of : ∀ (a b : List Bool), Le a b → cnt a ≤ cnt b ∧ (cnt a = cnt b → a = b)
  | [], [], _ => ⟨Nat.le_refl _, fun _ => rfl⟩
  | x :: a, y :: b, h => by
    have hab : Le a b := ⟨by have := h.1; simpa using this, fun i hi => by have := h.2 (i + 1); simpa using this (by simpa using hi)⟩
    have ih := cnt_le_of a b hab
    have h0 := h.2 0
    simp only [List.getD_cons_zero] at h0
    unfold cnt at *
    cases x <;> cases y <;> simp_all <;> omega
  | [], _ :: _, h => by have := h.1; simp at this
  | _ :: _, [], h => by have := h.1; simp at this

/-- Rounds, one after another. -/
def rnds (rs : List Rl) (S : Nat) : Nat → List Bool → List Bool
  | 0, l => l
  | k + 1, l => rnds rs S k (rnd rs S l)

theorem rnds_length (rs : List Rl) (S : Nat) : ∀ k l, (rnds rs S k l).length = l.length
  | 0, l => rfl
  | k + 1, l => (rnds_length rs S k _).trans (le_rnd rs S l).1.symm

theorem rnds_still (rs : List Rl) (S : Nat) {l : List Bool} (h : rnd rs S l = l) : ∀ k, rnds rs S k l = l
  | 0 => rfl
  | k + 1 => by unfold rnds; rw [h]; exact rnds_still rs S h k

theorem rnds_end (rs : List Rl) (S : Nat) : ∀ k l, l.length ≤ cnt l + k → rnd rs S (rnds rs S k l) = rnds rs S k l
  | 0, l, h => by
    have h1 := cnt_le_of l (rnd rs S l) (le_rnd rs S l)
    have h2 : cnt (rnd rs S l) ≤ (rnd rs S l).length := List.countP_le_length
    have h3 := (le_rnd rs S l).1
    exact (h1.2 (by omega)).symm
  | k + 1, l, h => by
    unfold rnds
    by_cases e : rnd rs S l = l
    · rw [e, rnds_still rs S e k, e]
    · have h1 := cnt_le_of l (rnd rs S l) (le_rnd rs S l)
      have h3 := (le_rnd rs S l).1
      refine rnds_end rs S k _ ?_
      have : cnt l ≠ cnt (rnd rs S l) := fun x => e (h1.2 x).symm
      omega

theorem sound_rnds {t : Tb} : ∀ k l, Sound t l → Sound t (rnds t.rules t.states.length k l)
  | 0, l, h => h
  | k + 1, l, h => sound_rnds k _ (sound_range _ l h)

/-- What is true at the first, and as many rounds as there are states behind it, tells what can be reached. -/
theorem reach_end {t : Tb} (hR : Ranged t) (l : List Bool) (hl : l = (List.replicate t.states.length false).set 0 true) :
    (rnds t.rules t.states.length t.states.length l).length = t.states.length ∧ ∀ s, (rnds t.rules t.states.length t.states.length l).getD s false = true ↔ Reached t s := by
  have hlen : l.length = t.states.length := by rw [hl]; simp
  have h0 : l.getD 0 false = true := by
    rw [hl, getD_set, if_pos ⟨rfl, by rw [List.length_replicate]; exact hR.1⟩]
  have hle : ∀ k l, Le l (rnds t.rules t.states.length k l) := by
    intro k
    induction k with
    | zero => exact fun l => Le.refl l
    | succ k ih => exact fun l => (le_rnd _ _ l).trans (ih _)
  have hS : Sound t l := by
    intro i hi
    rw [hl, getD_set] at hi
    split at hi
    · rename_i e; rw [← e.1]; exact .first
    · rw [List.getD_eq_getElem?_getD, List.getElem?_replicate] at hi
      split at hi <;> simp at hi
  have hst := rnds_end t.rules t.states.length t.states.length l (by omega)
  have hln := rnds_length t.rules t.states.length t.states.length l
  refine ⟨hln.trans hlen, fun s => ⟨fun h => sound_rnds _ l hS s h, fun h => ?_⟩⟩
  induction h with
  | first => exact (hle _ l).2 0 h0
  | go s r _ hr hf ih => exact closed_of_still hR (hln.trans hlen) hst s r hr ih hf
end Go.Proofs.YtgkniocjlkfhmaaDoor.R

namespace Go.Proofs.YtgkniocjlkfhmaaDoor.R
open Go Go.RowKit Go.Proofs.YtgkniocjlkfhmaaDoor.B Go.Proofs.YtgkniocjlkfhmaaDoor.K Go.Proofs.YtgkniocjlkfhmaaDoor.E
set_option linter.unusedVariables false

/-- The error, the rule, the part, the place. -/
abbrev Ft := Int × Int × Int × Int
def Ft.v (f : Ft) : Value := .agg #[.int .i64 f.1, .int .i64 f.2.1, .int .i64 f.2.2.1, .int .i64 f.2.2.2]

/-- The first place from k on, of n, at which something is wrong. -/
def firstBad (f : Nat → Int) : Nat → Nat → Option (Nat × Int)
  | _, 0 => none
  | k, n + 1 => if f k ≠ 0 then some (k, f k) else firstBad f (k + 1) n

structure Pt where
  number : Int
  whole : Int
  places : Nat
  wrong : Nat → Int

def ff (rule : Int) : List Pt → Ft
  | [] => (0, 0, 0, 0)
  | p :: r => if p.whole ≠ 0 then (p.whole, rule, p.number, 0) else match firstBad p.wrong 0 p.places with
    | some x => (x.2, rule, p.number, (x.1 : Int))
    | none => ff rule r

/-- The first place at which p holds; -1: there is none. -/
def idxP {X : Type} (p : X → Bool) (l : List X) : Int := match l.findIdx? p with
  | some k => (k : Int)
  | none => -1

def nameE (s : Bs) (ahead : Bool) : Int := if I.isName s = false then 6 else if ahead = true then 9 else 0
def placeE (n many : Int) (ahead : Bool) : Int := if 0 ≤ n ∧ n < many then (if ahead = true then 9 else 0) else 3
def countE (n least most : Int) : Int := if most < n then 4 else if n < least then 2 else 0
def unlessE (b : Bool) (e : Int) : Int := if b = true then 0 else e

def nameBad (l : List Bs) (k : Nat) : Int := match l[k]? with
  | some s => nameE s ((l.take k).any fun x => x == s)
  | none => 0
def startBad (l : List Int) (k : Nat) : Int := match l[k]? with
  | some x => unlessE (isVal x) 3
  | none => 0
def fromBad (S : Int) (l : List Int) (k : Nat) : Int := match l[k]? with
  | some x => placeE x S ((l.take k).any fun y => y == x)
  | none => 0
def guardBad (V A : Int) (l : List Gd) (k : Nat) : Int := match l[k]? with
  | some g => if g.code < 16 ∨ 63 < g.code then 3 else (check g.test V A).2
  | none => 0
def setBad (V A : Int) (l : List Se) (k : Nat) : Int := match l[k]? with
  | some s => if placeE s.var V ((l.take k).any fun y => y.var == s.var) ≠ 0 then placeE s.var V ((l.take k).any fun y => y.var == s.var) else (check s.value V A).2
  | none => 0
def badE : Option (Nat × Int) → Int
  | some x => x.2
  | none => 0
def spBad (S V A : Int) (p : Sp) : Int := if S ≤ p.to then 3 else badE (firstBad (setBad V A p.sets) 0 p.sets.length)
def stepBad (S V A : Int) (l : List Sp) (k : Nat) : Int := match l[k]? with
  | some p => spBad S V A p
  | none => 0

def tableParts (t : Tb) : List Pt := [
  ⟨1, countE t.states.length 1 8, t.states.length, nameBad t.states⟩,
  ⟨2, countE t.vars.length 0 6, t.vars.length, nameBad t.vars⟩,
  ⟨3, unlessE (decide ((t.start.length : Int) = t.vars.length)) 2, t.start.length, startBad t.start⟩,
  ⟨4, countE t.rules.length 0 12, 0, fun _ => 0⟩]
def ruleParts (t : Tb) (n : Nat) (r : Rl) : List Pt := [
  ⟨5, nameE r.name ((t.rules.take n).any fun x => x.name == r.name), 0, fun _ => 0⟩,
  ⟨6, unlessE (decide (0 ≤ r.args ∧ r.args ≤ 4)) 3, 0, fun _ => 0⟩,
  ⟨7, 0, r.from_.length, fromBad t.states.length r.from_⟩,
  ⟨8, countE r.guards.length 0 4, r.guards.length, guardBad t.vars.length r.args r.guards⟩,
  ⟨9, countE r.steps.length 1 3, r.steps.length, stepBad t.states.length t.vars.length r.args r.steps⟩]

/-- The faults of the rules from one on. -/
def ffRules (t : Tb) : Nat → Nat → Ft
  | _, 0 => (0, 0, 0, 0)
  | n, m + 1 => match t.rules[n]? with
    | some r => if ff n (ruleParts t n r) ≠ (0, 0, 0, 0) then ff n (ruleParts t n r) else ffRules t (n + 1) m
    | none => (0, 0, 0, 0)

/-- P5.1. -/
def chk5 (t : Tb) : Ft := if ff (-1) (tableParts t) ≠ (0, 0, 0, 0) then ff (-1) (tableParts t) else ffRules t 0 t.rules.length

theorem findIdx_some {X : Type} (p : X → Bool) (l : List X) (K : Nat) (x : X) (hx : l[K]? = some x) (hp : p x = true) (h : ∀ (j : Nat) y, j < K → l[j]? = some y → p y = false) : l.findIdx? p = some K := by
  obtain ⟨hk, e⟩ := List.getElem?_eq_some_iff.1 hx
  rw [List.findIdx?_eq_some_iff_getElem]
  refine ⟨hk, by rw [e]; exact hp, fun j hj => ?_⟩
  rw [h j _ hj (List.getElem?_eq_getElem (Nat.lt_trans hj hk))]
  decide

theorem findIdx_none {X : Type} (p : X → Bool) (l : List X) (h : ∀ (j : Nat) y, l[j]? = some y → p y = false) : l.findIdx? p = none := by
  rw [List.findIdx?_eq_none_iff]
  intro x hx
  obtain ⟨j, hj, rfl⟩ := List.getElem_of_mem hx
  exact h j _ (List.getElem?_eq_getElem hj)

/-- Of a list that has it at K, the first place is ahead of K just if one ahead has it, too. -/
theorem idxP_lt {X : Type} (p : X → Bool) (l : List X) (K : Nat) (x : X) (hx : l[K]? = some x) (hp : p x = true) : decide (idxP p l < (K : Int)) = (l.take K).any p := by
  unfold idxP
  cases h : l.findIdx? p with
  | none =>
    rw [List.findIdx?_eq_none_iff] at h
    have := h x (List.mem_of_getElem? hx)
    rw [hp] at this; cases this
  | some k =>
    rw [List.findIdx?_eq_some_iff_getElem] at h
    obtain ⟨hk, hpk, hmin⟩ := h
    rw [Bool.eq_iff_iff, decide_eq_true_iff, List.any_eq_true]
    constructor
    · intro hlt
      have hlt : (k : Int) < (K : Int) := hlt
      exact ⟨l[k], List.mem_of_getElem? (i := k) (by rw [List.getElem?_take, if_pos (by omega)]; exact List.getElem?_eq_getElem hk), hpk⟩
    · rintro ⟨y, hy, hpy⟩
      obtain ⟨j, hj, rfl⟩ := List.getElem_of_mem hy
      rw [List.length_take] at hj
      rw [List.getElem_take] at hpy
      have : ¬ j < k := fun hjk => by have := hmin j hjk; rw [hpy] at this; exact this rfl
      show (k : Int) < (K : Int)
      omega

theorem idxP_range {X : Type} (p : X → Bool) (l : List X) : -1 ≤ idxP p l ∧ idxP p l ≤ l.length := by
  unfold idxP
  cases h : l.findIdx? p with
  | none => simp only; omega
  | some k =>
    rw [List.findIdx?_eq_some_iff_getElem] at h
    have := h.1
    simp only; omega

theorem idxP_neg {X : Type} (p : X → Bool) (l : List X) : decide (0 ≤ idxP p l) = l.any p := by
  unfold idxP
  cases h : l.findIdx? p with
  | none =>
    rw [List.findIdx?_eq_none_iff] at h
    rw [Bool.eq_iff_iff, decide_eq_true_iff, List.any_eq_true]
    constructor
    · intro h0; exact absurd h0 (by decide)
    · rintro ⟨x, hx, hp⟩; rw [h x hx] at hp; cases hp
  | some k =>
    rw [List.findIdx?_eq_some_iff_getElem] at h
    obtain ⟨hk, hpk, _⟩ := h
    rw [Bool.eq_iff_iff, decide_eq_true_iff, List.any_eq_true]
    exact ⟨fun _ => ⟨_, List.getElem_mem hk, hpk⟩, fun _ => by simp only; omega⟩

theorem firstBad_at (f : Nat → Int) (k n : Nat) : firstBad f k (n + 1) = if f k ≠ 0 then some (k, f k) else firstBad f (k + 1) n := rfl

theorem firstBad_ne (f : Nat → Int) : ∀ n k x, firstBad f k n = some x → x.2 ≠ 0
  | 0, k, x, h => by cases h
  | n + 1, k, x, h => by
    rw [firstBad_at] at h
    split at h
    · cases h; assumption
    · exact firstBad_ne f n (k + 1) x h

theorem firstBad_none (f : Nat → Int) : ∀ n k, firstBad f k n = none ↔ ∀ j, k ≤ j → j < k + n → f j = 0
  | 0, k => ⟨fun _ j h1 h2 => by omega, fun _ => rfl⟩
  | n + 1, k => by
    rw [firstBad_at]
    split
    · rename_i h
      exact ⟨fun e => (by cases e), fun e => absurd (e k (Nat.le_refl _) (by omega)) h⟩
    · rename_i h
      rw [firstBad_none f n (k + 1)]
      constructor
      · intro g j h1 h2
        rcases Nat.eq_or_lt_of_le h1 with rfl | h3
        · exact Decidable.not_not.1 h
        · exact g j h3 (by omega)
      · intro g j h1 h2
        exact g j (by omega) (by omega)

theorem ff_zero (rule : Int) : ∀ l : List Pt, ff rule l = (0, 0, 0, 0) ↔ ∀ p ∈ l, p.whole = 0 ∧ ∀ j, j < p.places → p.wrong j = 0
  | [] => ⟨fun _ p h => (by cases h), fun _ => rfl⟩
  | p :: r => by
    unfold ff
    split
    · rename_i h
      exact ⟨fun e => absurd (congrArg (·.1) e) h, fun e => absurd (e p List.mem_cons_self).1 h⟩
    · rename_i h
      have h0 := Decidable.not_not.1 h
      cases hf : firstBad p.wrong 0 p.places with
      | some x =>
        have hx := firstBad_ne _ _ _ _ hf
        refine ⟨fun e => absurd (congrArg (·.1) e) hx, fun e => ?_⟩
        have := (firstBad_none p.wrong p.places 0).2 (fun j _ hj => (e p List.mem_cons_self).2 j (by omega))
        rw [this] at hf; cases hf
      | none =>
        simp only
        rw [ff_zero rule r]
        have hn := (firstBad_none p.wrong p.places 0).1 hf
        constructor
        · intro g q hq
          rcases List.mem_cons.1 hq with rfl | hq
          · exact ⟨h0, fun j hj => hn j (Nat.zero_le _) (by omega)⟩
          · exact g q hq
        · exact fun g q hq => g q (List.mem_cons_of_mem _ hq)

theorem ffRules_zero (t : Tb) : ∀ m n, n + m = t.rules.length → (ffRules t n m = (0, 0, 0, 0) ↔ ∀ k r, n ≤ k → t.rules[k]? = some r → ff k (ruleParts t k r) = (0, 0, 0, 0))
  | 0, n, h => ⟨fun _ k r h1 h2 => by have := (List.getElem?_eq_some_iff.1 h2).1; omega, fun _ => rfl⟩
  | m + 1, n, h => by
    obtain ⟨r, hr⟩ : ∃ r, t.rules[n]? = some r := ⟨_, List.getElem?_eq_getElem (by omega)⟩
    unfold ffRules
    rw [hr]
    simp only
    split
    · rename_i hne
      exact ⟨fun e => absurd e hne, fun e => absurd (e n r (Nat.le_refl _) hr) hne⟩
    · rename_i hz
      have hz := Decidable.not_not.1 hz
      rw [ffRules_zero t m (n + 1) (by omega)]
      constructor
      · intro g k x h1 h2
        rcases Nat.eq_or_lt_of_le h1 with rfl | h3
        · rw [hr] at h2; cases h2; exact hz
        · exact g k x h3 h2
      · exact fun g k x h1 h2 => g k x (by omega) h2

/-- What a table that may be is. -/
theorem chk5_zero (t : Tb) : chk5 t = (0, 0, 0, 0) ↔ (∀ p ∈ tableParts t, p.whole = 0 ∧ ∀ j, j < p.places → p.wrong j = 0) ∧ ∀ k r, t.rules[k]? = some r → ∀ p ∈ ruleParts t k r, p.whole = 0 ∧ ∀ j, j < p.places → p.wrong j = 0 := by
  unfold chk5
  split
  · rename_i h
    exact ⟨fun e => absurd e h, fun e => absurd ((ff_zero _ _).2 e.1) h⟩
  · rename_i h
    have h0 := (ff_zero _ _).1 (Decidable.not_not.1 h)
    rw [ffRules_zero t _ 0 (by omega)]
    constructor
    · exact fun g => ⟨h0, fun k r hr => (ff_zero _ _).1 (g k r (Nat.zero_le _) hr)⟩
    · exact fun g k r _ hr => (ff_zero _ _).2 (g.2 k r hr)
end Go.Proofs.YtgkniocjlkfhmaaDoor.R

namespace Go.Proofs.YtgkniocjlkfhmaaDoor.R
open Go Go.RowKit Go.Proofs.YtgkniocjlkfhmaaDoor.B Go.Proofs.YtgkniocjlkfhmaaDoor.K Go.Proofs.YtgkniocjlkfhmaaDoor.E
set_option linter.unusedVariables false

/-- From each state that is in b and not in a all rules lead into c. -/
def Shut (t : Tb) (a b c : List Bool) : Prop := ∀ x, b.getD x false = true → a.getD x false = false → ∀ r ∈ t.rules, rlFor r x = true → c.getD (toOf r x).toNat false = true

/-- What going on from some states adds. -/
def More (t : Tb) (a b : List Bool) : Prop := Le a b ∧ Shut t a b b ∧ (Sound t a → Sound t b)

theorem More.refl (t : Tb) (a : List Bool) : More t a a := ⟨Le.refl a, (by intro x h1 h2; rw [h1] at h2; cases h2), fun h => h⟩
theorem More.trans {t : Tb} {a b c : List Bool} (h : More t a b) (g : More t b c) : More t a c := by
  refine ⟨h.1.trans g.1, fun x h1 h2 r hr hf => ?_, fun s => g.2.2 (h.2.2 s)⟩
  cases hb : b.getD x false with
  | true => exact g.1.2 _ (h.2.1 x hb h2 r hr hf)
  | false => exact g.2.1 x h1 hb r hr hf

theorem More.round {t : Tb} {a b : List Bool} {s : Nat} (h : More t (a.set s true) b) (hs : Reached t s) (hl : s < a.length) (hb : ∀ r ∈ t.rules, rlFor r s = true → b.getD (toOf r s).toNat false = true) : More t a b ∧ b.getD s false = true := by
  refine ⟨⟨(le_set a s).trans h.1, fun x h1 h2 r hr hf => ?_, fun hsd => h.2.2 ?_⟩, h.1.2 s (by rw [getD_set, if_pos ⟨rfl, hl⟩])⟩
  · by_cases e : s = x
    · subst e; exact hb r hr hf
    · exact h.2.1 x h1 (by rw [getD_set, if_neg (fun h => e h.1)]; exact h2) r hr hf
  · intro x hx
    rw [getD_set] at hx
    split at hx
    · rename_i e; rw [← e.1]; exact hs
    · exact hsd x hx

theorem getD_none (S x : Nat) : (List.replicate S false).getD x false = false := by
  rw [List.getD_eq_getElem?_getD, List.getElem?_replicate]
  split <;> rfl

theorem More.all {t : Tb} {b : List Bool} (S : Nat) (h : More t (List.replicate S false) b) (h0 : b.getD 0 false = true) : ∀ s, b.getD s false = true ↔ Reached t s := by
  intro s
  constructor
  · exact fun hs => h.2.2 (fun x hx => by rw [getD_none] at hx; cases hx) s hs
  · intro hs
    induction hs with
    | first => exact h0
    | go s r _ hm hf ih => exact h.2.1 s ih (getD_none S s) r hm hf

theorem cnt_set {l : List Bool} {s : Nat} (h : l.getD s false = false) (hs : s < l.length) : cnt l + 1 ≤ cnt (l.set s true) ∧ cnt (l.set s true) ≤ l.length := by
  have h1 := cnt_le_of l (l.set s true) (le_set l s)
  have h2 : cnt (l.set s true) ≤ (l.set s true).length := List.countP_le_length
  rw [List.length_set] at h2
  have : cnt l ≠ cnt (l.set s true) := fun e => by
    have e := h1.2 e
    have : (l.set s true).getD s false = true := by rw [getD_set, if_pos ⟨rfl, hs⟩]
    rw [← e, h] at this; cases this
  exact ⟨by omega, h2⟩

theorem countE_zero {n a b : Int} (h : countE n a b = 0) : a ≤ n ∧ n ≤ b := by
  unfold countE at h
  split at h
  · cases h
  · split at h
    · cases h
    · omega

theorem placeE_zero {n m : Int} {b : Bool} (h : placeE n m b = 0) : 0 ≤ n ∧ n < m ∧ b = false := by
  unfold placeE at h
  split at h
  · rename_i h1
    split at h
    · cases h
    · rename_i h2; exact ⟨h1.1, h1.2, by simpa using h2⟩
  · cases h

theorem unlessE_zero {b : Bool} {e : Int} (he : e ≠ 0) (h : unlessE b e = 0) : b = true := by
  unfold unlessE at h
  split at h
  · assumption
  · exact absurd h he

theorem nameE_zero {s : Bs} {b : Bool} (h : nameE s b = 0) : I.isName s = true ∧ b = false := by
  unfold nameE at h
  split at h
  · cases h
  · rename_i h1
    split at h
    · cases h
    · rename_i h2; exact ⟨by simpa using h1, by simpa using h2⟩

/-- What is needed of a table that may be. -/
structure Fine (t : Tb) : Prop where
  states : 0 < t.states.length ∧ t.states.length ≤ 8
  vars : t.vars.length ≤ 6
  rules : t.rules.length ≤ 12
  from_ : ∀ r ∈ t.rules, r.from_.length ≤ 8 ∧ ∀ x ∈ r.from_, 0 ≤ x ∧ x < t.states.length
  guards : ∀ r ∈ t.rules, r.guards.length ≤ 4 ∧ ∀ g ∈ r.guards, (check g.test t.vars.length r.args).2 = 0
  steps : ∀ r ∈ t.rules, r.steps.length ≤ 3 ∧ ∀ p ∈ r.steps, p.to < t.states.length
  sets : ∀ r ∈ t.rules, ∀ p ∈ r.steps, ∀ s ∈ p.sets, (0 ≤ s.var ∧ s.var < t.vars.length) ∧ (check s.value t.vars.length r.args).2 = 0

theorem badE_zero {f : Nat → Int} {k n : Nat} (h : badE (firstBad f k n) = 0) : firstBad f k n = none := by
  cases hx : firstBad f k n with
  | none => rfl
  | some x => rw [hx] at h; exact absurd h (firstBad_ne f n k x hx)

theorem pigeon : ∀ (S : Nat) (l : List Int), (∀ x ∈ l, 0 ≤ x ∧ x < (S : Int)) → l.Nodup → l.length ≤ S
  | 0, [], _, _ => Nat.le_refl _
  | 0, x :: l, h, _ => by have := h x List.mem_cons_self; omega
  | S + 1, l, h, hn => by
    have h1 : (l.erase (S : Int)).length ≤ S := pigeon S _ (fun x hx => by
      have hx' := (List.Nodup.mem_erase_iff hn).1 hx
      have := h x hx'.2
      have : x ≠ (S : Int) := hx'.1
      omega) (hn.erase _)
    by_cases hm : (S : Int) ∈ l
    · have := List.length_erase_of_mem hm
      omega
    · rw [List.erase_of_not_mem hm] at h1; omega

theorem nodup_of {X : Type} [BEq X] [LawfulBEq X] : ∀ (l : List X), (∀ (k : Nat) x, l[k]? = some x → ((l.take k).any fun y => y == x) = false) → l.Nodup := by
  intro l h
  rw [List.nodup_iff_pairwise_ne, List.pairwise_iff_getElem]
  intro i j hi hj hij e
  have := h j _ (List.getElem?_eq_getElem hj)
  rw [List.any_eq_false] at this
  refine this l[i] (List.mem_of_getElem? (i := i) (by rw [List.getElem?_take, if_pos hij]; exact List.getElem?_eq_getElem hi)) ?_
  rw [e]; exact beq_self_eq_true _

theorem fine_of {t : Tb} (h : chk5 t = (0, 0, 0, 0)) : Fine t := by
  obtain ⟨ht, hr⟩ := (chk5_zero t).1 h
  have p0 := ht _ (show (⟨1, countE t.states.length 1 8, t.states.length, nameBad t.states⟩ : Pt) ∈ tableParts t by simp [tableParts])
  have p1 := ht _ (show (⟨2, countE t.vars.length 0 6, t.vars.length, nameBad t.vars⟩ : Pt) ∈ tableParts t by simp [tableParts])
  have p3 := ht _ (show (⟨4, countE t.rules.length 0 12, 0, fun _ => 0⟩ : Pt) ∈ tableParts t by simp [tableParts])
  have q0 := countE_zero p0.1
  have q1 := countE_zero p1.1
  have q3 := countE_zero p3.1
  have hfrom : ∀ r ∈ t.rules, ∀ (j : Nat) x, r.from_[j]? = some x → placeE x t.states.length ((r.from_.take j).any fun y => y == x) = 0 := by
    intro r hrm j x hx
    obtain ⟨k, hk⟩ := List.getElem?_of_mem hrm
    have := (hr k r hk ⟨7, 0, r.from_.length, fromBad t.states.length r.from_⟩ (by simp [ruleParts])).2 j (List.getElem?_eq_some_iff.1 hx).1
    simp only [fromBad, hx] at this
    exact this
  have hguard : ∀ r ∈ t.rules, (0 : Int) ≤ r.guards.length ∧ (r.guards.length : Int) ≤ 4 ∧ ∀ (j : Nat), j < r.guards.length → guardBad t.vars.length r.args r.guards j = 0 := by
    intro r hrm
    obtain ⟨k, hk⟩ := List.getElem?_of_mem hrm
    have := hr k r hk ⟨8, countE r.guards.length 0 4, r.guards.length, guardBad t.vars.length r.args r.guards⟩ (by simp [ruleParts])
    have q := countE_zero this.1
    exact ⟨q.1, q.2, this.2⟩
  have hstep : ∀ r ∈ t.rules, (r.steps.length : Int) ≤ 3 ∧ ∀ (j : Nat), j < r.steps.length → stepBad t.states.length t.vars.length r.args r.steps j = 0 := by
    intro r hrm
    obtain ⟨k, hk⟩ := List.getElem?_of_mem hrm
    have := hr k r hk ⟨9, countE r.steps.length 1 3, r.steps.length, stepBad t.states.length t.vars.length r.args r.steps⟩ (by simp [ruleParts])
    have q := countE_zero this.1
    exact ⟨q.2, this.2⟩
  have hsp : ∀ r ∈ t.rules, ∀ p ∈ r.steps, spBad t.states.length t.vars.length r.args p = 0 := by
    intro r hrm p hp
    obtain ⟨j, hj⟩ := List.getElem?_of_mem hp
    have := (hstep r hrm).2 j (List.getElem?_eq_some_iff.1 hj).1
    simp only [stepBad, hj] at this
    exact this
  refine ⟨⟨by omega, by omega⟩, by omega, by omega, fun r hrm => ⟨?_, ?_⟩, fun r hrm => ⟨by have := (hguard r hrm).2.1; omega, ?_⟩, fun r hrm => ⟨by have := (hstep r hrm).1; omega, ?_⟩, ?_⟩
  · refine Nat.le_trans (pigeon t.states.length r.from_ (fun x hx => ?_) (nodup_of r.from_ fun k x hx => (placeE_zero (hfrom r hrm k x hx)).2.2)) (by omega)
    obtain ⟨j, hj⟩ := List.getElem?_of_mem hx
    have := placeE_zero (hfrom r hrm j x hj)
    exact ⟨this.1, this.2.1⟩
  · intro x hx
    obtain ⟨j, hj⟩ := List.getElem?_of_mem hx
    have := placeE_zero (hfrom r hrm j x hj)
    exact ⟨this.1, this.2.1⟩
  · intro g hg
    obtain ⟨j, hj⟩ := List.getElem?_of_mem hg
    have := (hguard r hrm).2.2 j (List.getElem?_eq_some_iff.1 hj).1
    simp only [guardBad, hj] at this
    split at this
    · cases this
    · exact this
  · intro p hp
    have := hsp r hrm p hp
    unfold spBad at this
    split at this
    · cases this
    · omega
  · intro r hrm p hp s hs
    have := hsp r hrm p hp
    unfold spBad at this
    split at this
    · cases this
    · have hb := (firstBad_none _ _ _).1 (badE_zero this)
      obtain ⟨j, hj⟩ := List.getElem?_of_mem hs
      have := hb j (Nat.zero_le _) (by have := (List.getElem?_eq_some_iff.1 hj).1; omega)
      simp only [setBad, hj] at this
      split at this
      · rename_i hne; exact absurd this hne
      · rename_i hz
        have hz := placeE_zero (Decidable.not_not.1 hz)
        exact ⟨⟨hz.1, hz.2.1⟩, this⟩

theorem Fine.ranged {t : Tb} (h : Fine t) : Ranged t := ⟨h.states.1, fun r hr p hp => (h.steps r hr).2 p hp⟩
end Go.Proofs.YtgkniocjlkfhmaaDoor.R

namespace Go.Proofs.YtgkniocjlkfhmaaDoor.D
open Go Go.RowKit Go.Proofs.YtgkniocjlkfhmaaDoor.B Go.Proofs.YtgkniocjlkfhmaaDoor.K Go.Proofs.YtgkniocjlkfhmaaDoor.E Go.Proofs.YtgkniocjlkfhmaaDoor.R
set_option linter.unusedVariables false

structure Stt where
  pos : Int
  ver : Int
  vars : List Int
structure Ev where
  pos : Int
  vars : List Int
structure Cm where
  client : Int
  seq : Int
  stream : Bs
  rule : Int
  args : List Int
  expect : Int

/-- May a state be, of a table that may be? -/
def stands (t : Tb) (s : Stt) : Bool :=
  decide (0 ≤ s.pos ∧ s.pos < (t.states.length : Int) ∧ 0 ≤ s.ver ∧ s.ver ≤ 1099511627776 ∧ s.vars.length = t.vars.length) && s.vars.all isVal

def ruleAt (t : Tb) (n : Int) : Option Rl := if 0 ≤ n then t.rules[n.toNat]? else none

/-- The code of a command that is refused ahead of its rule's guards. -/
def unfit (t : Tb) (s : Stt) (c : Cm) : Int :=
  if stands t s = false then 3 else match ruleAt t c.rule with
  | none => 1
  | some r => if ((c.args.length : Int) = r.args ∧ c.args.all isVal = true) then
      (if isFor t c.rule s.pos = false then 3 else if 0 ≤ c.expect ∧ c.expect ≠ s.ver then 4 else 0) else 2

/-- What a guard says. -/
def guardCode (vs ar : List Int) (g : Gd) : Int := if (eval g.test vs ar).2 ≠ 0 then 5 else if (eval g.test vs ar).1 = 0 then g.code else 0

/-- The code of the first guard that refuses. -/
def refusal (vs ar : List Int) : List Gd → Int
  | [] => 0
  | g :: l => if guardCode vs ar g ≠ 0 then guardCode vs ar g else refusal vs ar l

/-- A step's values, all by what was ahead of it. -/
def setsDo (vs ar : List Int) : List Se → List Int → Option (List Int)
  | [], now => some now
  | x :: l, now => if (eval x.value vs ar).2 ≠ 0 then none else setsDo vs ar l (now.set x.var.toNat (eval x.value vs ar).1)

def goTo (p : Sp) (pos : Int) : Int := if 0 ≤ p.to then p.to else pos

/-- The events of steps. -/
def stepsDo (ar : List Int) : List Sp → Int → List Int → Option (List Ev)
  | [], _, _ => some []
  | p :: l, pos, vs => match setsDo vs ar p.sets vs with
    | none => none
    | some now => match stepsDo ar l (goTo p pos) now with
      | none => none
      | some r => some (⟨goTo p pos, now⟩ :: r)

/-- What becomes of a command, of a table that may be. -/
def decided (t : Tb) (s : Stt) (c : Cm) : List Ev × Int :=
  if unfit t s c ≠ 0 then ([], unfit t s c) else match ruleAt t c.rule with
  | none => ([], 1)
  | some r => if refusal s.vars c.args r.guards ≠ 0 then ([], refusal s.vars c.args r.guards) else match stepsDo c.args r.steps s.pos s.vars with
    | none => ([], 5)
    | some l => (l, 0)

/-- P7.2, of every table. -/
def decide7 (t : Tb) (s : Stt) (c : Cm) : List Ev × Int := if chk5 t = (0, 0, 0, 0) then decided t s c else ([], 1)

def begins (t : Tb) : Stt := if chk5 t = (0, 0, 0, 0) then ⟨0, 0, t.start⟩ else ⟨0, 0, []⟩
def right7 (t : Tb) (s : Stt) : Bool := if chk5 t = (0, 0, 0, 0) then stands t s else false

def next (n : Int) : Int := if n < 1099511627776 then n + 1 else n
def apply7 (s : Stt) (e : Ev) : Stt := ⟨e.pos, next s.ver, e.vars⟩
def fold7 (s : Stt) : List Ev → Stt
  | [] => s
  | e :: l => fold7 (apply7 s e) l

theorem fold7_append (s : Stt) (a b : List Ev) : fold7 s (a ++ b) = fold7 (fold7 s a) b := by
  induction a generalizing s with
  | nil => rfl
  | cons e l ih => exact ih _

theorem fold7_take (s : Stt) (l : List Ev) (K : Nat) (e : Ev) (h : l[K]? = some e) : fold7 s (l.take (K + 1)) = apply7 (fold7 s (l.take K)) e := by
  rw [List.take_add_one, h, fold7_append]; rfl

/-! What a table that may be is like. -/

/-- Rules whose guards' codes are no zero, and whose steps set variables and go to states. -/
structure Firm (t : Tb) (r : Rl) : Prop where
  codes : ∀ g ∈ r.guards, 16 ≤ g.code ∧ g.code ≤ 63
  sets : ∀ p ∈ r.steps, ∀ x ∈ p.sets, 0 ≤ x.var ∧ x.var < t.vars.length
  to_ : ∀ p ∈ r.steps, p.to < t.states.length
  some_ : 1 ≤ r.steps.length ∧ r.steps.length ≤ 3
  few : r.guards.length ≤ 4

theorem firm_of {t : Tb} (h : chk5 t = (0, 0, 0, 0)) {n : Nat} {r : Rl} (hn : t.rules[n]? = some r) : Firm t r := by
  obtain ⟨ht, hr⟩ := (chk5_zero t).1 h
  have q8 := hr n r hn _ (show (⟨8, countE r.guards.length 0 4, r.guards.length, guardBad t.vars.length r.args r.guards⟩ : Pt) ∈ ruleParts t n r by simp [ruleParts])
  have q9 := hr n r hn _ (show (⟨9, countE r.steps.length 1 3, r.steps.length, stepBad t.states.length t.vars.length r.args r.steps⟩ : Pt) ∈ ruleParts t n r by simp [ruleParts])
  have c8 := countE_zero q8.1
  have c9 := countE_zero q9.1
  have hstep : ∀ p ∈ r.steps, spBad t.states.length t.vars.length r.args p = 0 := by
    intro p hp
    obtain ⟨k, hk⟩ := List.getElem?_of_mem hp
    have := q9.2 k (List.getElem?_eq_some_iff.1 hk).1
    simp only [stepBad, hk] at this
    exact this
  refine ⟨fun g hg => ?_, fun p hp x hx => ?_, fun p hp => ?_, by omega, by omega⟩
  · obtain ⟨k, hk⟩ := List.getElem?_of_mem hg
    have := q8.2 k (List.getElem?_eq_some_iff.1 hk).1
    simp only [guardBad, hk] at this
    by_cases hc : g.code < 16 ∨ 63 < g.code
    · rw [if_pos hc] at this; cases this
    · omega
  · have h1 := hstep p hp
    unfold spBad at h1
    split at h1
    · cases h1
    · have h2 := badE_zero h1
      obtain ⟨k, hk⟩ := List.getElem?_of_mem hx
      have h3 := (firstBad_none (setBad t.vars.length r.args p.sets) p.sets.length 0).1 h2 k (Nat.zero_le _) (by have := (List.getElem?_eq_some_iff.1 hk).1; omega)
      simp only [setBad, hk] at h3
      split at h3
      · rename_i hne; exact absurd h3 hne
      · rename_i hne
        have h4 := placeE_zero (Decidable.not_not.1 hne)
        exact ⟨h4.1, h4.2.1⟩
  · have h1 := hstep p hp
    unfold spBad at h1
    split at h1
    · cases h1
    · omega

theorem setsDo_length (vs ar : List Int) : ∀ (l : List Se) (now r : List Int), setsDo vs ar l now = some r → r.length = now.length
  | [], now, r, h => by cases h; rfl
  | x :: l, now, r, h => by
    unfold setsDo at h
    split at h
    · cases h
    · rw [setsDo_length vs ar l _ r h, List.length_set]

theorem eval_val {code : List In} {vs ar : List Int} (h : (eval code vs ar).2 = 0) : isVal (eval code vs ar).1 = true := by
  obtain ⟨n, hn⟩ : ∃ n, (eval code vs ar).1 = n := ⟨_, rfl⟩
  have he : eval code vs ar = (n, 0) := by rw [← hn, ← h]
  rw [hn]
  exact (eval_good code vs ar n he).2.2.2.2

theorem setsDo_val (vs ar : List Int) : ∀ (l : List Se) (now r : List Int), setsDo vs ar l now = some r → now.all isVal = true → r.all isVal = true
  | [], now, r, h, hv => by cases h; exact hv
  | x :: l, now, r, h, hv => by
    unfold setsDo at h
    split at h
    · cases h
    · rename_i hne
      refine setsDo_val vs ar l _ r h ?_
      rw [List.all_eq_true] at hv ⊢
      intro y hy
      rcases List.mem_or_eq_of_mem_set hy with h1 | rfl
      · exact hv y h1
      · exact eval_val (Decidable.not_not.1 hne)

/-- What steps do: as many events, each a state's. -/
theorem stepsDo_right (t : Tb) (ar : List Int) : ∀ (l : List Sp) (pos : Int) (vs : List Int) (r : List Ev), (∀ p ∈ l, p.to < t.states.length) → stepsDo ar l pos vs = some r →
    0 ≤ pos ∧ pos < t.states.length → vs.all isVal = true → r.length = l.length ∧ ∀ e ∈ r, (0 ≤ e.pos ∧ e.pos < t.states.length) ∧ e.vars.length = vs.length ∧ e.vars.all isVal = true
  | [], pos, vs, r, _, h, _, _ => by cases h; exact ⟨rfl, by simp⟩
  | p :: l, pos, vs, r, hp, h, hpos, hv => by
    unfold stepsDo at h
    split at h
    · cases h
    · rename_i now hnow
      split at h
      · cases h
      · rename_i r' hr'
        cases h
        have hg : 0 ≤ goTo p pos ∧ goTo p pos < t.states.length := by
          have := hp p List.mem_cons_self
          unfold goTo; split <;> omega
        have hl := setsDo_length _ _ _ _ _ hnow
        have hvn := setsDo_val _ _ _ _ _ hnow hv
        obtain ⟨h1, h2⟩ := stepsDo_right t ar l _ now r' (fun q hq => hp q (List.mem_cons_of_mem _ hq)) hr' hg hvn
        refine ⟨by simp [h1], fun e he => ?_⟩
        rcases List.mem_cons.1 he with rfl | he
        · exact ⟨hg, hl, hvn⟩
        · obtain ⟨a, b, c⟩ := h2 e he
          exact ⟨a, b.trans hl, c⟩
end Go.Proofs.YtgkniocjlkfhmaaDoor.D

namespace Go.Proofs.YtgkniocjlkfhmaaDoor.D
open Go Go.RowKit Go.Proofs.YtgkniocjlkfhmaaDoor.B Go.Proofs.YtgkniocjlkfhmaaDoor.K Go.Proofs.YtgkniocjlkfhmaaDoor.E Go.Proofs.YtgkniocjlkfhmaaDoor.R
set_option linter.unusedVariables false

def StWf (s : Stt) : Prop := I64 s.pos ∧ I64 s.ver ∧ (∀ x ∈ s.vars, I64 x) ∧ s.vars.length ≤ 9223372036854775807
def EvWf (e : Ev) : Prop := I64 e.pos ∧ (∀ x ∈ e.vars, I64 x) ∧ e.vars.length ≤ 9223372036854775807
def CmWf (c : Cm) : Prop := I64 c.client ∧ I64 c.seq ∧ c.stream.length ≤ 9223372036854775807 ∧ I64 c.rule ∧ ((∀ x ∈ c.args, I64 x) ∧ c.args.length ≤ 9223372036854775807) ∧ I64 c.expect

def EvIs (w : World) (cs : List Value) (e : Ev) : Prop := ∃ v, cs = [.int .i64 e.pos, v] ∧ SlN w v e.vars
def EvsIs (w : World) (v : Value) (l : List Ev) : Prop := SlOf w 2 (EvIs w) v l
def CmIs (w : World) (cs : List Value) (c : Cm) : Prop := ∃ v, cs = [.int .i64 c.client, .int .i64 c.seq, sv c.stream, .int .i64 c.rule, v, .int .i64 c.expect] ∧ SlN w v c.args

theorem EvIs.below {w w' : World} {cs : List Value} {e : Ev} (h : EvIs w cs e) (hb : Below w.heap.size w w') : EvIs w' cs e := by
  obtain ⟨v, rfl, h⟩ := h; exact ⟨v, rfl, Sl.below h hb⟩
theorem CmIs.below {w w' : World} {cs : List Value} {e : Cm} (h : CmIs w cs e) (hb : Below w.heap.size w w') : CmIs w' cs e := by
  obtain ⟨v, rfl, h⟩ := h; exact ⟨v, rfl, Sl.below h hb⟩
theorem EvsIs.below {w w' : World} {v : Value} {l : List Ev} (h : EvsIs w v l) (hb : Below w.heap.size w w') : EvsIs w' v l := SlOf.below h hb fun _ _ q => q.below hb

/-- Numbers as cells. -/
def nums (l : List Int) : List Value := l.map fun n => .int .i64 n
theorem nums_length (l : List Int) : (nums l).length = l.length := by unfold nums; rw [List.length_map]
theorem nums_one (l : List Int) : ∀ u ∈ nums l, u.oneCell' = true := by
  intro u hu
  obtain ⟨x, _, rfl⟩ := List.mem_map.1 hu
  rfl
theorem nums_at (l : List Int) (k : Nat) (x : Int) (h : l[k]? = some x) : (nums l)[k]? = some (.int .i64 x) := by unfold nums; rw [List.getElem?_map, h]; rfl
theorem sln_nums {w : World} {v : Value} {l : List Int} : SlN w v l ↔ Sl w v (nums l) := Iff.rfl
theorem nums_set (l : List Int) (k : Nat) (x : Int) : (nums l).toArray.setIfInBounds k (.int .i64 x) = (nums (l.set k x)).toArray := by
  unfold nums; rw [List.map_set]; simp

/-- Block g is the row of the numbers l. -/
def NumsAt (w : World) (g : Nat) (l : List Int) : Prop := w.heap[g]? = some (.cells (nums l).toArray 3 (0, 0))
theorem NumsAt.lt {w : World} {g : Nat} {l : List Int} (h : NumsAt w g l) : g < w.heap.size := (Array.getElem?_eq_some_iff.1 h).1
theorem NumsAt.below {w w' : World} {g : Nat} {l : List Int} (h : NumsAt w g l) (hb : Below w.heap.size w w') : NumsAt w' g l := (hb.block _ h.lt).trans h

/-- A row of numbers of one's own, whole. -/
theorem sln_own {W : World} {g : Nat} {l : List Int} (h : NumsAt W g l) (c : Nat) : SlN W (.slice (some ⟨g, 0, none⟩) l.length c) l := by
  have := Sl.row (cap := c) (xs := nums l) h (by rw [List.toList_toArray, List.take_length])
  rwa [nums_length] at this
theorem sln_ownN {W : World} {g n : Nat} {l : List Int} (h : NumsAt W g l) (hn : l.length = n) (c : Nat) : SlN W (.slice (some ⟨g, 0, none⟩) n c) l := by rw [← hn]; exact sln_own h c

/-- Nothing but block B has turned of what was there. -/
def Tch (B : Nat) (w w' : World) : Prop := w.grownBy w' (some B)
theorem Tch.trans {B : Nat} {a b c : World} (h : Tch B a b) (k : Tch B b c) : Tch B a c :=
  ⟨k.os.trans h.os, k.tape.trans h.tape, k.output.trans h.output, Nat.le_trans h.size k.size, fun i hi hn => (k.block i (Nat.lt_of_lt_of_le hi h.size) hn).trans (h.block i hi hn)⟩
theorem Tch.refl (B : Nat) (w : World) : Tch B w w := ⟨rfl, rfl, rfl, Nat.le_refl _, fun _ _ _ => rfl⟩
theorem Tch.of_below {B : Nat} {w w' : World} (h : Below w.heap.size w w') : Tch B w w' := ⟨h.os, h.tape, h.output, h.size, fun i hi _ => h.block i hi⟩
theorem Tch.set (B o : Nat) (w : World) (v : Value) : Tch B w (w.setCell ⟨B, o, none⟩ v) :=
  ⟨rfl, rfl, rfl, by simp [World.setCell], fun i _ hn => Below.heap_setCell _ _ _ i (fun e => hn (by rw [e]))⟩
theorem Tch.drew {B : Nat} {w w' : World} (h : Tch B w w') : Tch B w w'.drew := ⟨h.os, h.tape, h.output, h.size, h.block⟩
theorem Tch.drewN {B n : Nat} {w w' : World} (h : Tch B w w') : Tch B w (w'.drewN n) := ⟨h.os, h.tape, h.output, h.size, h.block⟩
theorem Tch.below {B N : Nat} {w0 w w' : World} (h : Tch B w w') (hb : Below N w0 w) (h1 : N ≤ w.heap.size) (h2 : N ≤ B) : Below N w0 w' := hb.grown h h1 (fun k hk => by cases hk; exact h2)
theorem Tch.heap {B g : Nat} {w w' : World} {o : Obj} (h : Tch B w w') (hg : w.heap[g]? = some o) (hn : g ≠ B) : w'.heap[g]? = some o :=
  (h.block g (Array.getElem?_eq_some_iff.1 hg).1 (fun e => hn (by cases e; rfl))).trans hg
theorem Tch.cell {B : Nat} {w w' : World} (h : Tch B w w') {g o : Nat} {v : Value} (hc : w.cell? ⟨g, o, none⟩ = some v) (hn : g ≠ B) : w'.cell? ⟨g, o, none⟩ = some v :=
  World.grownBy.cell h hc (fun e => hn (by cases e; rfl))
end Go.Proofs.YtgkniocjlkfhmaaDoor.D

namespace Go.Proofs.YtgkniocjlkfhmaaDoor.D
open Go Go.RowKit Go.ChangeShapes Go.WideShapes Go.ChangeAt Go.Proofs.YtgkniocjlkfhmaaDoor.B Go.Proofs.YtgkniocjlkfhmaaDoor.K Go.Proofs.YtgkniocjlkfhmaaDoor.E Go.Proofs.YtgkniocjlkfhmaaDoor.R
set_option linter.unusedVariables false

instance : Inhabited Ev := ⟨⟨0, []⟩⟩
instance : Inhabited Cm := ⟨⟨0, 0, [], 0, [], 0⟩⟩

section
variable {H : Type} {enc : TypeId × Value → H} {W : World}

theorem list3 {cs : List Value} {a b c : Value} (h : cs.length = 3) (ha : cs[0]? = some a) (hb : cs[1]? = some b) (hc : cs[2]? = some c) : cs = [a, b, c] := by
  match cs, h, ha, hb, hc with
  | [_, _, _], _, ha, hb, hc => simp at ha hb hc; rw [ha, hb, hc]
theorem list6 {cs : List Value} {a b c d e f : Value} (h : cs.length = 6) (ha : cs[0]? = some a) (hb : cs[1]? = some b) (hc : cs[2]? = some c) (hd : cs[3]? = some d) (he : cs[4]? = some e) (hf : cs[5]? = some f) : cs = [a, b, c, d, e, f] := by
  match cs, h, ha, hb, hc, hd, he, hf with
  | [_, _, _, _, _, _], _, ha, hb, hc, hd, he, hf => simp at ha hb hc hd he hf; rw [ha, hb, hc, hd, he, hf]

/-- Cells that read as a state. -/
theorem st_cells {n : Nat} {c0 c1 c2 : Value} {z0 z1 z2 : DataW H × List MemPlace} (t0 : DataW.trod enc Tryd.prog W 0 (fun _ => true) true n 3 [c0] = some z0) (t1 : DataW.trod enc Tryd.prog W 0 (fun _ => true) true n 3 [c1] = some z1)
    (t2 : DataW.trod enc Tryd.prog W 0 (fun _ => true) true n 22 [c2] = some z2) : ∃ s, c0 = .int .i64 s.pos ∧ c1 = .int .i64 s.ver ∧ SlN W c2 s.vars ∧ StWf s := by
  obtain ⟨x, rfl, hx⟩ := int_cell t0
  obtain ⟨y, rfl, hy⟩ := int_cell t1
  obtain ⟨l, h1, h2, h3⟩ := ints_cell t2
  exact ⟨⟨x, y, l⟩, rfl, rfl, h1, hx, hy, h2, h3⟩

/-- Cells that read as a command. -/
theorem cm_cells {n : Nat} {c0 c1 c2 c3 c4 c5 : Value} {z0 z1 z2 z3 z4 z5 : DataW H × List MemPlace} (t0 : DataW.trod enc Tryd.prog W 0 (fun _ => true) true n 3 [c0] = some z0) (t1 : DataW.trod enc Tryd.prog W 0 (fun _ => true) true n 3 [c1] = some z1)
    (t2 : DataW.trod enc Tryd.prog W 0 (fun _ => true) true n 9 [c2] = some z2) (t3 : DataW.trod enc Tryd.prog W 0 (fun _ => true) true n 3 [c3] = some z3) (t4 : DataW.trod enc Tryd.prog W 0 (fun _ => true) true n 22 [c4] = some z4)
    (t5 : DataW.trod enc Tryd.prog W 0 (fun _ => true) true n 3 [c5] = some z5) : ∃ c, CmIs W [c0, c1, c2, c3, c4, c5] c ∧ CmWf c := by
  obtain ⟨a, rfl, ha⟩ := int_cell t0
  obtain ⟨b, rfl, hb⟩ := int_cell t1
  obtain ⟨s, rfl, hs⟩ := str_cell t2
  obtain ⟨r, rfl, hr⟩ := int_cell t3
  obtain ⟨l, h1, h2, h3⟩ := ints_cell t4
  obtain ⟨x, rfl, hx⟩ := int_cell t5
  exact ⟨⟨a, b, s, r, l, x⟩, ⟨c4, rfl, h1⟩, ha, hb, hs, hr, ⟨h2, h3⟩, hx⟩

theorem ev_cell {n : Nat} {cs : List Value} {z : DataW H × List MemPlace} (h : DataW.trod enc Tryd.prog W 0 (fun _ => true) true n 31 cs = some z) : ∃ g, EvIs W cs g ∧ EvWf g := by
  obtain ⟨hl, m, hf⟩ := each_cell Tryd.underlying31 (by kernel_rfl) (by kernel_rfl) h
  obtain ⟨c0, z0, e0, t0⟩ := hf 0 _ rfl
  obtain ⟨c1, z1, e1, t1⟩ := hf 1 _ rfl
  obtain rfl := list2 hl e0 e1
  obtain ⟨x, rfl, hx⟩ := int_cell t0
  obtain ⟨l, h1, h2, h3⟩ := ints_cell t1
  exact ⟨⟨x, l⟩, ⟨c1, rfl, h1⟩, hx, h2, h3⟩

theorem cm_cell {n : Nat} {cs : List Value} {z : DataW H × List MemPlace} (h : DataW.trod enc Tryd.prog W 0 (fun _ => true) true n 43 cs = some z) : ∃ g, CmIs W cs g ∧ CmWf g := by
  obtain ⟨hl, m, hf⟩ := each_cell Tryd.underlying43 (by kernel_rfl) (by kernel_rfl) h
  obtain ⟨c0, z0, e0, t0⟩ := hf 0 _ rfl
  obtain ⟨c1, z1, e1, t1⟩ := hf 1 _ rfl
  obtain ⟨c2, z2, e2, t2⟩ := hf 2 _ rfl
  obtain ⟨c3, z3, e3, t3⟩ := hf 3 _ rfl
  obtain ⟨c4, z4, e4, t4⟩ := hf 4 _ rfl
  obtain ⟨c5, z5, e5, t5⟩ := hf 5 _ rfl
  obtain rfl := list6 hl e0 e1 e2 e3 e4 e5
  exact cm_cells t0 t1 t2 t3 t4 t5

set_option maxRecDepth 100000 in
/-- An argument that is a state. -/
theorem st_arg {base : Nat} {v : Value} {d : DataW H} {p : List MemPlace} (hval : Value.okWide Tryd.prog W .any base 24 v) (hd : DataW.Trod enc Tryd.prog W 0 (fun _ => true) true 24 v d p) :
    ∃ u s, v = .agg #[.int .i64 s.pos, .int .i64 s.ver, u] ∧ SlN W u s.vars ∧ StWf s := by
  obtain ⟨cs, rfl, hsz⟩ := okWide_struct Tryd.underlying24 hval
  obtain ⟨fuel, hf0⟩ := hd
  obtain ⟨hl, m, hf⟩ := each_cell Tryd.underlying24 (by kernel_rfl) (by kernel_rfl) (show DataW.trod enc Tryd.prog W 0 (fun _ => true) true fuel 24 cs.toList = some (d, p) from hf0)
  obtain ⟨c0, z0, e0, t0⟩ := hf 0 _ rfl
  obtain ⟨c1, z1, e1, t1⟩ := hf 1 _ rfl
  obtain ⟨c2, z2, e2, t2⟩ := hf 2 _ rfl
  have hcs := list3 hl e0 e1 e2
  obtain ⟨l⟩ := cs
  obtain rfl : l = [c0, c1, c2] := hcs
  obtain ⟨s, rfl, rfl, h1, h2⟩ := st_cells t0 t1 t2
  exact ⟨c2, s, rfl, h1, h2⟩

set_option maxRecDepth 100000 in
/-- An argument that is a command. -/
theorem cm_arg {base : Nat} {v : Value} {d : DataW H} {p : List MemPlace} (hval : Value.okWide Tryd.prog W .any base 43 v) (hd : DataW.Trod enc Tryd.prog W 0 (fun _ => true) true 43 v d p) :
    ∃ u c, v = .agg #[.int .i64 c.client, .int .i64 c.seq, sv c.stream, .int .i64 c.rule, u, .int .i64 c.expect] ∧ SlN W u c.args ∧ CmWf c := by
  obtain ⟨cs, rfl, hsz⟩ := okWide_struct Tryd.underlying43 hval
  obtain ⟨fuel, hf0⟩ := hd
  obtain ⟨c, ⟨u, hc, h1⟩, h2⟩ := cm_cell (show DataW.trod enc Tryd.prog W 0 (fun _ => true) true fuel 43 cs.toList = some (d, p) from hf0)
  obtain ⟨l⟩ := cs
  obtain rfl : l = _ := hc
  exact ⟨u, c, rfl, h1, h2⟩

theorem evs_cell {n : Nat} {c : Value} {z : DataW H × List MemPlace} (h : DataW.trod enc Tryd.prog W 0 (fun _ => true) true n 25 [c] = some z) : ∃ l, EvsIs W c l ∧ (∀ x ∈ l, EvWf x) ∧ l.length ≤ 9223372036854775807 :=
  of_field (X := Ev) (k := 2) (Q := EvIs W) (R := EvWf) Tryd.underlying25 (by kernel_rfl) (by decide) (fun fuel cs y _ hy => ev_cell hy) h
end
end Go.Proofs.YtgkniocjlkfhmaaDoor.D

namespace Go.Proofs.YtgkniocjlkfhmaaDoor.K
open Go.ChangeShapes Go.WideShapes Go.ChangeAt Go.RowKit

section
variable {H : Type} {enc : TypeId × Value → H} {P : Program}

theorem trodAll_below (hl : laidOutB P = true) {W W' : World} (hb : Below W.heap.size W W') : ∀ {ts : List TypeId} {vs : List Value} {ds : List (DataW H)} {ps : List MemPlace},
    (∀ t ∈ ts, P.readableRec t = true ∧ t < P.types.size) → DataW.TrodAll enc P W 0 (fun _ => true) true ts vs ds ps → (∀ x ∈ ps, x.block < W.heap.size) →
    DataW.TrodAll enc P W' 0 (fun b => decide (b < W.heap.size)) true ts vs ds ps
  | [], [], [], ps, _, h, _ => h
  | t :: ts, v :: vs, d :: ds, ps, hts, h, hlt => by
    obtain ⟨p, q, hp, hq, rfl⟩ := h
    have ht := hts t List.mem_cons_self
    exact ⟨p, q, Below.trod hl ht.1 ht.2 hp hb (fun x hx => hlt x (List.mem_append_left _ hx)), trodAll_below hl hb (fun t ht => hts t (List.mem_cons_of_mem _ ht)) hq (fun x hx => hlt x (List.mem_append_right _ hx)), rfl⟩
  | [], _ :: _, _, _, _, h, _ => by cases h
  | [], [], _ :: _, _, _, h, _ => by cases h
  | _ :: _, [], _, _, _, h, _ => by cases h
  | _ :: _, _ :: _, [], _, _, h, _ => by cases h

/-- THE LAW's OWN END: it returned true; below the heap's end nothing has turned. -/
theorem post_law {f : Func} {s : ChangeSpec} {W W' : World} {args : Array Value} {ds gs : List (DataW H)} {before : List MemPlace} {t : TypeId}
    (hW : DataW.Whole enc P f.params.toList s.vars false W args.toList ds gs before) (hb : Below W.heap.size W W') (hl : laidOutB P = true)
    (hv : s.vars = []) (hspec : s.fn H ds = { results := [.lit (.bool true)], args := ds }) (hr : f.resultTypes.toList = [t]) (ht : P.underlying t = some .bool)
    (hts : ∀ t ∈ f.params.toList, P.readableRec t = true ∧ t < P.types.size) :
    s.post enc P f false true false false W args (.bool true) W' := by
  have hWc := hW
  obtain ⟨p, q, hA, hV, rfl, hfz, hnd⟩ := hW
  rw [hv] at hV
  obtain ⟨rfl, rfl⟩ := trodVars_none hV
  have hlt : ∀ x ∈ p, x.block < W.heap.size := fun x hx => hWc.lt x (by simpa using hx)
  have hsz : f.resultTypes.size = 1 := by rw [← Array.length_toList, hr]; rfl
  refine ⟨ds, [], p ++ [], [], p, [], hWc, ?_, ?_, ?_, World.keptBut_mono (fun _ h => h.elim) (hb.frame (fun _ => False)), fun h => by cases h⟩
  · rw [List.append_nil, hspec, hr, hsz]
    exact trodAll_cons_mk (shut_bool ht true) trodAll_mk0
  · rw [List.append_nil, hspec]
    exact trodAll_below hl hb hts hA hlt
  · rw [List.append_nil, hspec, hv]
    rfl

end
end Go.Proofs.YtgkniocjlkfhmaaDoor.K

namespace Go.Proofs.YtgkniocjlkfhmaaDoor.D
open Go Go.RowKit Go.Proofs.YtgkniocjlkfhmaaDoor.B Go.Proofs.YtgkniocjlkfhmaaDoor.K Go.Proofs.YtgkniocjlkfhmaaDoor.E Go.Proofs.YtgkniocjlkfhmaaDoor.R
set_option linter.unusedVariables false
set_option maxRecDepth 100000

theorem run_make_any {P : Program} (w : World) (t e : TypeId) (i : TypeInfo) (z : Value) (ht : P.underlying t = some (.slice e)) (hi : P.info? e = some i) (hz : i.zero = some z) (hsize : i.size = 1) (n : Nat) (hb : i.bytes * n ≤ 281474976710656) (hn : n ≤ 9223372036854775807) :
    ∃ cur : List Value, cur.length = n ∧ (Instr.makeSlice t (.int .i64 (n : Int)) (.int .i64 (n : Int))).run P w = .ok (.slice (some ⟨w.heap.size, 0, none⟩) n n) (w.alloc (.cells cur.toArray e)) := by
  have := run_make (P := P) w t e i z ht hi hz .i64 .i64 (n : Int) (n : Int) (by omega) (by omega) (by rw [← Int.natCast_mul]; exact Int.ofNat_le.2 hb) (by omega)
  rw [Int.toNat_natCast, hsize, Nat.mul_one] at this
  exact ⟨(madeCells z.cells n).toList, by rw [Array.length_toList]; exact size_madeCells _ _, by rw [Array.toArray_toList]; exact this⟩

theorem int_infos : (Tryd.prog.info? 3).map (fun i => (i.zero, i.size, i.bytes)) = some (some (.int .i64 0), 1, 8) := by kernel_rfl
theorem info3 {P : Program} {t : TypeId} {z : Value} {n b : Nat} (h : (P.info? t).map (fun i => (i.zero, i.size, i.bytes)) = some (some z, n, b)) : ∃ i, P.info? t = some i ∧ i.zero = some z ∧ i.size = n ∧ i.bytes = b := by
  obtain ⟨i, hi, e⟩ := Option.map_eq_some_iff.1 h
  simp only [Prod.mk.injEq] at e
  exact ⟨i, hi, e.1, e.2.1, e.2.2⟩

theorem sl_addr {w : World} {a : Option Addr} {n cap : Nat} {xs : List Value} (h : Sl w (.slice a n cap) xs) (h0 : 0 < xs.length) : ∃ ad, a = some ad ∧ ∀ (j : Nat) v, xs[j]? = some v → w.cell? (ad.add j) = some v := by
  obtain ⟨b, off, rfl, _⟩ := h.at (List.getElem?_eq_getElem h0)
  refine ⟨_, rfl, fun j v hj => ?_⟩
  obtain ⟨b', off', e, hc⟩ := h.at hj
  cases e
  rw [show (⟨b, off, none⟩ : Addr).add j = ⟨b, off + j, none⟩ by unfold Addr.add; split <;> simp_all]
  exact hc

/-- What copies hand out: a block of their own. -/
def Cp (l : List Int) (w : World) (z : Ending) (w' : World) : Prop :=
  ∃ g, z = .returned (.slice (some ⟨g, 0, none⟩) l.length l.length) ∧ w.heap.size ≤ g ∧ NumsAt w' g l ∧ Below w.heap.size w w'

theorem splice_all {α : Type} (cur cs : List α) (h : cur.length = cs.length) : splice cur 0 cs = cs := by
  unfold splice
  rw [List.take_zero, List.nil_append, Nat.zero_add, ← h, List.drop_length, List.append_nil]

set_option maxHeartbeats 1000000 in
theorem copied_any (l : List Int) (v : Value) (w : World) (hs : SlN w v l) (hl : l.length * 8 ≤ 281474976710656) :
    Calls Tryd.prog 10 #[v] w (Cp l w) := by
  obtain ⟨i0, hi, hz0, hz1, hz2⟩ := info3 int_infos
  have HS := Lib.hid hs
  obtain ⟨a, cap, rfl, -⟩ := hs
  rw [List.length_map] at HS ⊢
  obtain ⟨n, hn⟩ : ∃ n, l.length = n := ⟨_, rfl⟩
  have HN := Lib.hid hn
  rw [hn] at hl HS ⊢
  obtain ⟨cur, hcl, hmk⟩ := run_make_any (P := Tryd.prog) w 22 3 i0 (.int .i64 0) Tryd.underlying22 hi hz0 hz1 n (by rw [hz2]; omega) (by omega)
  obtain ⟨W0, hW0⟩ : ∃ W0, w.alloc (.cells cur.toArray 3) = W0 := ⟨_, rfl⟩
  have hB0 : Below w.heap.size w W0 := by rw [← hW0]; exact (Below.refl w.heap.size w).alloc (Nat.le_refl _) _
  have hg : W0.heap[w.heap.size]? = some (.cells cur.toArray 3 (0, 0)) := by rw [← hW0]; exact heap_alloc_at _ _
  have HG := Lib.hid hg
  have HB := Lib.hid hB0
  have HC := Lib.hid (show splice cur 0 (nums l) = nums l from splice_all _ _ (by rw [hcl, nums_length, hn]))
  have hcs : (nums l).length = Nat.min n n := by rw [nums_length, hn]; exact (Nat.min_self n).symm
  have HCS := Lib.hid hcs
  have HSW := Lib.hid (Sl.below (sln_nums.1 HS.out) hB0)
  have hfit : 0 + (nums l).length ≤ cur.length := by rw [nums_length, hn, hcl]; omega
  have HF := Lib.hid hfit
  have HO := Lib.hid (nums_one l)
  rw [hW0] at hmk
  clear hn hl hcl hW0 hB0 hg hcs hfit
  go_enter Tryd.func10, Tryd.ntmps10
  have hsz1 : (Tryd.prog.info? 3).map (·.size) = some 1 := by rw [hi]; exact congrArg some hz1
  go_wp2_with (refine wpList_copy_splice rfl (.tmp 7) (.tmp 8) 22 22 rfl 3 Tryd.underlying22 hsz1 (some ⟨w.heap.size, 0, none⟩) a n n n cap rfl rfl w.heap.size 0 cur 3 HG.out (nums l) HCS.out (fun h0 => ⟨rfl, sl_addr HSW.out h0⟩) HF.out HO.out w.heap.size w HB.out (Nat.le_refl _) ?_; intro w2 hg2 hb2)
  have hg := hg2.out
  rw [HC.out] at hg
  go_ret
  refine ⟨w.heap.size, ?_, Nat.le_refl _, hg, hb2⟩
  rw [HN.out]
  rfl
end Go.Proofs.YtgkniocjlkfhmaaDoor.D
