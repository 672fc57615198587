/-
  What the program's package infix does, call by call.
-/
import Derived.Test.YtbeidmkhpcnbbaaGreatDoorIPShH
import Derived.Test.YtbeidmkhpcnbbaaGreatDoorIPParse
namespace Go.Proofs.YtbeidmkhpcnbbaaGreatDoor.I
open Go Go.RowKit Go.Proofs.YtbeidmkhpcnbbaaGreatDoor.B Go.Proofs.YtbeidmkhpcnbbaaGreatDoor.K Go.Proofs.YtbeidmkhpcnbbaaGreatDoor.E
set_option linter.unusedVariables false

theorem lx_len {p : Nat} {u : Bs} {ts : List Tk} (h : Lx p u ts) : ts.length ≤ u.length + 1 := by
  induction h with
  | nil => simp
  | blank _ _ _ _ ih => simp only [List.length_cons]; omega
  | word p w r ts h1 _ _ _ ih =>
    have : 0 < w.length := List.length_pos_iff.2 h1
    simp only [List.length_cons, List.length_append]; omega

structure Contracts : Prop where
  name_ : ∀ (s : Bs) (w : World), Glob w → s.length ≤ 4611686018427387904 →
    Calls Tryz.prog 9 #[sv s] w fun e w' => e = .returned (.bool (isName s)) ∧ Below w.heap.size w w'
  show_ : ∀ (code : List In) (vs : List Bs) (na : Int) (v v1 : Value) (w : World), Glob w → SlI w v code → Names w v1 vs → (∀ i ∈ code, (-9223372036854775808 ≤ i.1 ∧ i.1 ≤ 9223372036854775807) ∧ -9223372036854775808 ≤ i.2 ∧ i.2 ≤ 9223372036854775807) →
    code.length ≤ 9223372036854775807 → vs.length ≤ 20 → (-9223372036854775808 ≤ na ∧ na ≤ 9223372036854775807) → (∀ s ∈ vs, s.length ≤ 1099511627776) →
    Calls Tryz.prog 6 #[v, v1, .int .i64 na] w fun e w' => e = .returned (.tuple #[sv (showOf vs na code).1, .int .i64 (showOf vs na code).2]) ∧ Below w.heap.size w w'
  parseOk_ : ∀ (t : Bs) (vs : List Bs) (na : Int) (ts : List Tk) (c : List In) (z : Nat) (v1 : Value) (w : World), Glob w → Lx 0 t ts → t.length ≤ 2048 → Names w v1 vs → vs.length ≤ 20 → (∀ s ∈ vs, isName s = true) → 0 ≤ na → na ≤ 10 →
    Pa vs na (.lv 1) ts (.ok c [(z, [])]) → c.length ≤ 31 →
    Calls Tryz.prog 8 #[sv t, v1, .int .i64 na] w fun e w' => (∃ v, e = .returned (.tuple #[v, .int .i64 0, .int .i64 0]) ∧ SlI w' v c) ∧ Below w.heap.size w w'
  parseErr_ : ∀ (t : Bs) (vs : List Bs) (na : Int) (ts : List Tk) (p : Nat) (e : Int) (v1 : Value) (w : World), Glob w → Lx 0 t ts → t.length ≤ 2048 → Names w v1 vs → vs.length ≤ 20 → (∀ s ∈ vs, isName s = true) → 0 ≤ na → na ≤ 10 →
    Pa vs na (.lv 1) ts (.err p e) →
    Calls Tryz.prog 8 #[sv t, v1, .int .i64 na] w fun x w' => (∃ v, x = .returned (.tuple #[v, .int .i64 (p : Int), .int .i64 e])) ∧ Below w.heap.size w w'
  parseMore_ : ∀ (t : Bs) (vs : List Bs) (na : Int) (ts : List Tk) (c : List In) (q : Nat) (s : Bs) (r : List Tk) (v1 : Value) (w : World), Glob w → Lx 0 t ts → t.length ≤ 2048 → Names w v1 vs → vs.length ≤ 20 → (∀ s ∈ vs, isName s = true) → 0 ≤ na → na ≤ 10 →
    Pa vs na (.lv 1) ts (.ok c ((q, s) :: r)) → s ≠ [] →
    Calls Tryz.prog 8 #[sv t, v1, .int .i64 na] w fun x w' => (∃ v, x = .returned (.tuple #[v, .int .i64 (q : Int), .int .i64 6])) ∧ Below w.heap.size w w'

theorem contracts : Contracts where
  name_ s w hg hl := (name_any s w hg hl).mono fun e w' h => ⟨h.1, h.2 ▸ Below.refl _ _⟩
  show_ code vs na v v1 w hg hs hn _ hl hv hna hV := show_any code vs na v v1 w hg hs hn hl (by omega) hna.2 hV
  parseOk_ t vs na ts c z v1 w hg hlx htl hvs hvl _ _ _ hpa hc := parse_ok t vs na ts c z (by omega) v1 w hg hlx htl hvs (by omega) hpa (by have := lx_len hlx; omega)
  parseErr_ t vs na ts p e v1 w hg hlx htl hvs hvl _ _ _ hpa := parse_err t vs na ts p e v1 w hg hlx htl hvs (by omega) hpa (by have := lx_len hlx; omega)
  parseMore_ t vs na ts c q s r v1 w hg hlx htl hvs hvl _ _ _ hpa hs := parse_more t vs na ts c q s r hs v1 w hg hlx htl hvs (by omega) hpa (by have := lx_len hlx; omega)
end Go.Proofs.YtbeidmkhpcnbbaaGreatDoor.I
