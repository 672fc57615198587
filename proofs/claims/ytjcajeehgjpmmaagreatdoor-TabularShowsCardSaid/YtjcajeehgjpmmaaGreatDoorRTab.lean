/-
  Layer 5: tables, plain and in memory.
-/
import Derived.Lib.FrozenHead
import Derived.Laws.IdiomStrings
import Derived.Lib.UnsafeStr
import Derived.Lib.BufferRead
import Derived.Test.YtjcajeehgjpmmaaGreatDoorProg
import Derived.WalkSpells
import Derived.WalkLawsBesides
import Derived.Lib.Hide
import Derived.Lib.Strings
import Derived.Lib.VarintMem
import Derived.RegionCalls
import Derived.Deep.RegionWith
import Derived.Test.YtjcajeehgjpmmaaGreatDoorKIns
import Derived.Lib.SmallJoins
import Derived.Lib.LaidTab
import Derived.Shelf.Strconv.Itoa3
import Derived.SliceStrings
namespace Go.Proofs.YtjcajeehgjpmmaaGreatDoor.K
open Go Go.RowKit Go.Lib
theorem alloc_keeps (w : World) (o : Obj) (k : Nat) (h : k < w.heap.size) : (w.alloc o).heap[k]? = w.heap[k]? := Below.heap_alloc w o k h
section
variable {P : Program}
end
end Go.Proofs.YtjcajeehgjpmmaaGreatDoor.K
namespace Go.Proofs.YtjcajeehgjpmmaaGreatDoor.B
open Go Go.RowKit
def str (l : List UInt8) : ByteArray := ⟨l.toArray⟩
theorem str_size (l : List UInt8) : (str l).size = l.length := by simp [str, ByteArray.size]
theorem str_data (l : List UInt8) : (str l).data.toList = l := by simp [str]
theorem str_eq (s : ByteArray) : str s.data.toList = s := by obtain ⟨⟨l⟩⟩ := s; rfl
theorem str_toList (l : List UInt8) : (str l).toList = l := by rw [Lib.toList_data]; exact str_data l
theorem str_append (a b : List UInt8) : str a ++ str b = str (a ++ b) := by unfold str; exact ByteArray.mk_append_mk a b
theorem str_inj {a b : List UInt8} (h : str a = str b) : a = b := by rw [<- str_data a, h, str_data]
def sv (l : List UInt8) : Value := .string (str l)
theorem ret_int {k : IntKind} {a b : Int} (h : a = b) : Ending.returned (.int k a) = .returned (.int k b) := by rw [h]
theorem ret_str {a b : ByteArray} (h : a = b) : Ending.returned (.string a) = .returned (.string b) := by rw [h]
theorem ret_bool {a b : Bool} (h : a = b) : Ending.returned (.bool a) = .returned (.bool b) := by rw [h]
theorem bcell {B : Nat} {W w1 : World} (hb : Below B W w1) : (∀ b o, b < B -> w1.cell? ⟨b, o, none⟩ = W.cell? ⟨b, o, none⟩) /\ (∀ b o, b < B -> w1.frozen? ⟨b, o, none⟩ = W.frozen? ⟨b, o, none⟩) :=
 ⟨fun b o h => hb.cell (p := ⟨b, o, none⟩) h, fun b o h => hb.frozen (p := ⟨b, o, none⟩) h⟩
theorem heap_alloc_at (w : World) (o : Obj) : (w.alloc o).heap[w.heap.size]? = some o := by
 show (w.heap.push o)[w.heap.size]? = some o
 simp
theorem owns_block {w : World} {base : Nat} {e : TypeId} {size : Nat} {v : Value} {n : Nat} {xs : List Value} (h : w.ownsRow base e size v n xs) : ∀ k, v.ownBlock = some k -> base <= k := by
 intro k hk;rcases h.2 with ⟨rfl, _⟩ | ⟨g, cap, cur, rfl, hg, _⟩
 ·cases hk
 ·simp only [Value.ownBlock, Option.some.injEq] at hk
  omega
theorem one_new (w : World) (v : Value) (e : TypeId) : ∀ (j : Nat) (u : Value), [v][j]? = some u -> (w.alloc (.cells #[v] e)).cell? ((⟨w.heap.size, 0, none⟩ : Addr).add j) = some u := by
 intro j u hj;match j, hj with
 | 0, hj => simp at hj; subst hj; simp [Addr.add]
theorem Tryz.info5 : (Tryz.prog.info? 5).map (fun i => (i.zero, i.size, i.bytes)) = some (some (.int .u8 0), 1, 1) := by kernel_rfl
theorem str_extract (l : List UInt8) (a b : Nat) : (str l).extract a b = str ((l.drop a).take (b - a)) := by
 unfold str;rw [Lib.extract_eq]
theorem str_take (l : List UInt8) (b : Nat) : (str l).extract 0 b = str (l.take b) := by
 rw [str_extract, List.drop_zero, Nat.sub_zero]
theorem str_ne {a b : List UInt8} (h : a ≠ b) : ((str a).toList == (str b).toList) = false := by
 rw [str_toList, str_toList]; exact beq_eq_false_iff_ne.2 h
end Go.Proofs.YtjcajeehgjpmmaaGreatDoor.B
namespace Go.Proofs.YtjcajeehgjpmmaaGreatDoor.E
open Go Go.RowKit B K
set_option linter.unusedVariables false
theorem takes_range (o : Int) : -1 <= takes o /\ takes o <= 3 := by
 unfold takes; repeat' split
 all_goals omega
theorem chk_at (nv na : Int) (code : List In) (k : Nat) (i : In) (hi : code[k]? = some i) (h : Int) :
 chk nv na (code.drop k) k h = if takes i.1 < 0 then ((k : Int), 2) else if right i nv na = false then ((k : Int), 3) else if h < takes i.1 then ((k : Int), 5) else chk nv na (code.drop (k + 1)) (k + 1) (h - takes i.1 + 1) := by
 obtain ⟨hk, e⟩ := List.getElem?_eq_some_iff.1 hi;rw [List.drop_eq_getElem_cons hk, e];rfl
theorem ret_pair {a a' b b' : Int} (h : (a, b) = (a', b')) : Ending.returned (.tuple #[.int .i64 a, .int .i64 b]) = .returned (.tuple #[.int .i64 a', .int .i64 b']) := by cases h; rfl
theorem pair_after {wr w1 : World} {o x : Int} {T : TypeId} (hb : Below (wr.alloc (.cells #[.int .i64 o, .int .i64 x] T)).heap.size (wr.alloc (.cells #[.int .i64 o, .int .i64 x] T)) w1) :
 w1.cell? ⟨wr.heap.size, 0, none⟩ = some (.int .i64 o) /\ w1.cell? ⟨wr.heap.size, 1, none⟩ = some (.int .i64 x) /\ wr.heap.size < w1.heap.size /\ Below wr.heap.size wr w1 := by
 have hsz : (wr.alloc (.cells #[.int .i64 o, .int .i64 x] T)).heap.size = wr.heap.size + 1 := by simp
 have hlt : wr.heap.size < (wr.alloc (.cells #[.int .i64 o, .int .i64 x] T)).heap.size := by omega
 refine ⟨((bcell hb).1 _ _ hlt).trans ?_, ((bcell hb).1 _ _ hlt).trans ?_, Nat.lt_of_lt_of_le hlt hb.size, ((Below.refl _ _).alloc (Nat.le_refl _) _).trans (hb.mono (by omega))⟩
 ·rw [cell_of_row _ _ _ _ T (0, 0) (heap_alloc_at _ _)]; rfl
 ·rw [cell_of_row _ _ _ _ T (0, 0) (heap_alloc_at _ _)]; rfl
theorem pair_next {B : Nat} {w1 w2 : World} {o x : Int} (c0 : w1.cell? ⟨B, 0, none⟩ = some (.int .i64 o)) (c1 : w1.cell? ⟨B, 1, none⟩ = some (.int .i64 x)) (hlt : B < w1.heap.size) (hb : Below w1.heap.size w1 w2) :
 w2.cell? ⟨B, 0, none⟩ = some (.int .i64 o) /\ w2.cell? ⟨B, 1, none⟩ = some (.int .i64 x) /\ B < w2.heap.size :=
 ⟨((bcell hb).1 _ _ hlt).trans c0, ((bcell hb).1 _ _ hlt).trans c1, Nat.lt_of_lt_of_le hlt hb.size⟩
theorem right_one (x nv na : Int) : right (1, x) nv na = isVal x := by unfold right; rw [if_pos rfl]
theorem right_two (x nv na : Int) : right (2, x) nv na = decide (0 <= x /\ x < nv) := by unfold right; rw [if_neg (show ¬ (2 : Int) = 1 by decide), if_pos rfl]
theorem right_three (x nv na : Int) : right (3, x) nv na = decide (0 <= x /\ x < na) := by unfold right; rw [if_neg (show ¬ (3 : Int) = 1 by decide), if_neg (show ¬ (3 : Int) = 2 by decide), if_pos rfl]
theorem right_other (o x nv na : Int) (h1 : o ≠ 1) (h2 : o ≠ 2) (h3 : o ≠ 3) : right (o, x) nv na = decide (x = 0) := by unfold right; rw [if_neg h1, if_neg h2, if_neg h3]
end Go.Proofs.YtjcajeehgjpmmaaGreatDoor.E
namespace Go.Proofs.YtjcajeehgjpmmaaGreatDoor.I
open Go E
set_option linter.unusedVariables false
def push (st : List Ex) (i : In) : List Ex :=
 if takes i.1 = 0 then (if i.1 = 1 then .con i.2 else if i.1 = 2 then .var i.2.toNat else .arg i.2.toNat) :: st
 else if takes i.1 = 1 then (match st with | a :: r => .un i.1 a :: r | _ => st)
 else if takes i.1 = 2 then (match st with | b :: a :: r => .bin i.1 a b :: r | _ => st)
 else (match st with | c :: b :: a :: r => .ite a b c :: r | _ => st)
theorem push_code (nv na : Int) (e : Ex) (hw : WF nv na e) : ∀ st, (codeOf e).foldl push st = e :: st := by
 induction e with
 | con n => intro st; rfl
 | var k => intro st; show push st (2, (k : Int)) = _; unfold push; rw [if_pos (show takes (2, (k : Int)).1 = 0 from (by decide : takes 2 = 0)), if_neg (by show ¬ (2 : Int) = 1; decide), if_pos rfl]; simp
 | arg k => intro st; show push st (3, (k : Int)) = _; unfold push; rw [if_pos (show takes (3, (k : Int)).1 = 0 from (by decide : takes 3 = 0)), if_neg (by show ¬ (3 : Int) = 1; decide), if_neg (by show ¬ (3 : Int) = 2; decide)]; simp
 | un o a ih =>
  intro st;simp only [codeOf, List.foldl_append, ih hw.2, List.foldl_cons, List.foldl_nil];rcases hw.1 with rfl | rfl <;> rfl
 | bin o a b iha ihb =>
  intro st;have ht : takes (o, (0 : Int)).1 = 2 := hw.1;simp only [codeOf, List.foldl_append, iha hw.2.1, ihb hw.2.2, List.foldl_cons, List.foldl_nil];unfold push;rw [if_neg (by omega), if_neg (by omega), if_pos ht]
 | ite a b c iha ihb ihc =>
  intro st;simp only [codeOf, List.foldl_append, iha hw.1, ihb hw.2.1, ihc hw.2.2, List.foldl_cons, List.foldl_nil];rfl
open Go.RowKit B K
theorem str_get (l : Bs) (k : Nat) (h : k < (str l).size) : (str l)[k]'h = l[k]'(by rwa [str_size] at h) := by
 show (str l).data[k]'_ = _
 simp only [str, List.getElem_toArray]
theorem isName_cons (c : UInt8) (r : Bs) : isName (c :: r) = (decide (r.length < 24) && letter c && (c :: r).all idc && decide (c :: r ≠ wmin) && decide (c :: r ≠ wmax) && decide (c :: r ≠ wif)) := rfl
theorem name_all (s : Bs) (k : Nat) (h : k < s.length) (hc : idc s[k] = false) : isName s = false := by
 match s, h, hc with
 | c :: r, h, hc =>
  have ha : (c :: r).all idc = false := by
   rw [List.all_eq_false];exact ⟨(c :: r)[k], List.getElem_mem h, by rw [hc]; decide⟩
  rw [isName_cons, ha];simp
theorem name_yes (s : Bs) (hp : 0 < s.length) (hl : letter (s[0]'hp) = true) (ha : s.all idc = true) (k1 : s ≠ wmin) (k2 : s ≠ wmax) (k3 : s ≠ wif) (h24 : s.length <= 24) : isName s = true := by
 match s, hp, hl, ha, k1, k2, k3, h24 with
 | c :: r, hp, hl, ha, k1, k2, k3, h24 =>
  rw [isName_cons, ha, show letter c = true from hl, decide_eq_true k1, decide_eq_true k2, decide_eq_true k3, decide_eq_true (by rw [List.length_cons] at h24; omega)];rfl
theorem idc_of (c : UInt8) : idc c = (letter c || digit c || decide (c = 95)) := rfl
theorem dig_small (n : Nat) (h : n < 10) : dig n = [UInt8.ofNat (48 + n)] := by unfold dig; rw [dif_pos h]
theorem dig_big (n : Nat) (h : ¬ n < 10) : dig n = dig (n / 10) ++ [UInt8.ofNat (48 + n % 10)] := by
 conv => lhs; unfold dig
 rw [dif_neg h]
theorem dig_length63 (n : Nat) (h : n <= 9223372036854775807) : (dig n).length <= 19 := by
 have key : ∀ d n, n < 10 ^ (d + 1) -> (dig n).length <= d + 1 := by
  intro d;induction d with
  | zero => intro n hn; unfold dig; rw [dif_pos (by omega)]; simp
  | succ d ih =>
   intro n hn;unfold dig;split
   ·simp
   ·rw [List.length_append]
    have := ih (n / 10) (by rw [Nat.div_lt_iff_lt_mul (by decide)]; rw [Nat.pow_succ] at hn; omega);simp only [List.length_cons, List.length_nil]; omega
 exact key 18 n (by omega)
theorem cell_kept {w w' : World} {g j : Nat} {u : Value} (hb : Below w.heap.size w w') (h : w.cell? ⟨g, j, none⟩ = some u) : w'.cell? ⟨g, j, none⟩ = some u :=
 ((bcell hb).1 _ _ (World.block_lt_of_cell? w _ h)).trans h
theorem text_le (vs : List Bs) (V : Nat) (nv na : Int) (hna : na <= 9223372036854775807) (hV : ∀ s ∈ vs, s.length <= V) (e : Ex) (hw : WF nv na e) : (text vs e).length + 2 <= (V + 40) * (codeOf e).length := by
 unfold text;induction e with
 | con n =>
  have hv := (isVal_iff n).1 hw;have := dig_length n.natAbs (by omega);unfold pieces codeOf;split <;> simp <;> omega
 | var k =>
  have hl : (vs.getD k []).length <= V := by
   rw [List.getD_eq_getElem?_getD];cases h : vs[k]? with
   | none => simp
   | some s => exact hV s (List.mem_of_getElem? h)
  unfold pieces codeOf;simp at hl ⊢; omega
 | arg k =>
  have hk : (k : Int) < na := hw;have := dig_length63 k (by omega);unfold pieces codeOf;simp; omega
 | un o a ih =>
  have ih := ih hw.2;have hw' := wrap_length (rank a) 6 (pieces vs a);unfold pieces codeOf;simp only [List.length_append, List.length_cons, List.length_nil, Nat.mul_add];split
  ·split
   ·simp at ih ⊢; omega
   ·simp at ih hw' ⊢; omega
  ·simp at ih hw' ⊢; omega
 | ite a b c iha ihb ihc =>
  have iha := iha hw.1;have ihb := ihb hw.2.1;have ihc := ihc hw.2.2;unfold pieces codeOf;simp only [List.length_append, List.length_cons, List.length_nil, Nat.mul_add];simp [wif] at iha ihb ihc ⊢; omega
 | bin o a b iha ihb =>
  have iha := iha hw.2.1;have ihb := ihb hw.2.2;have hs := sign_length o;unfold pieces codeOf;simp only [List.length_append, List.length_cons, List.length_nil, Nat.mul_add];split
  ·have hw' : (if o = 9 then wmin else wmax).length = 3 := by split <;> rfl
   simp only [List.flatten_append, List.flatten_cons, List.flatten_nil, List.length_append, hw', List.length_cons, List.length_nil];omega
  ·have h1 := wrap_length (rank a) (if rank (.bin o a b) = 3 then 4 else rank (.bin o a b)) (pieces vs a)
   have h2 := wrap_length (rank b) (rank (.bin o a b) + 1) (pieces vs b);simp only [List.flatten_append, List.flatten_cons, List.flatten_nil, List.length_append, List.length_cons, List.length_nil];omega
def Names (w : World) (v : Value) (vs : List Bs) : Prop := Sl w v (vs.map sv)
def shw (vs : List Bs) (e : Ex) (least : Nat) : Bs := if rank e < least then [40] ++ text vs e ++ [41] else text vs e
theorem shw_eq (vs : List Bs) (e : Ex) (least : Nat) : (wrap (rank e) least (pieces vs e)).flatten = shw vs e least := by
 unfold wrap shw text;split <;> simp
def signL : List Bs := [[], [], [], [], [45], [33], [43], [45], [42], wmin, wmax, [60], [60, 61], [61], [38], [124], wif]
structure Glob (w : World) : Prop where
 signs : ∃ (T : TypeId) (fr : Nat × Nat), w.heap[1]? = some (.cells (signL.map sv).toArray T fr)
 tens : Lib.TabIs Tryz.prog w "internal/strconv.uint64pow10" .u64 Lib.pow10Tab
theorem gTens : Tryz.prog.globalNamed "internal/strconv.uint64pow10" = some 2 := by kernel_rfl
theorem Glob.below {w w' : World} (h : Glob w) (hb : Below w.heap.size w w') : Glob w' := by
 obtain ⟨⟨T, fr, hs⟩, ht⟩ := h;exact ⟨⟨T, fr, (hb.block _ (Array.getElem?_eq_some_iff.1 hs).1).trans hs⟩, Joins.tab_stays gTens ht hb (Nat.le_refl _)⟩
theorem Glob.cell {w : World} (h : Glob w) (j : Nat) (l : Bs) (hl : signL[j]? = some l) : w.cell? ⟨1, j, none⟩ = some (sv l) := by
 obtain ⟨⟨T, fr, hs⟩, _⟩ := h;rw [cell_of_row _ _ _ _ _ _ hs];simp [hl]
end Go.Proofs.YtjcajeehgjpmmaaGreatDoor.I
namespace Go.Proofs.YtjcajeehgjpmmaaGreatDoor.R
open Go Go.RowKit Go.ChangeShapes Go.WideShapes Go.ChangeAt B K E
set_option linter.unusedVariables false
abbrev Bs := List UInt8
structure Gd where
 code : Int
 test : List In
structure Se where
 var : Int
 value : List In
structure Sp where
 sets : List Se
 to : Int
structure Rl where
 name : Bs
 args : Int
 from_ : List Int
 guards : List Gd
 steps : List Sp
structure Tb where
 states : List Bs
 vars : List Bs
 start : List Int
 rules : List Rl
def I64 (n : Int) : Prop := -9223372036854775808 <= n /\ n <= 9223372036854775807
def CodeWf (c : List In) : Prop := (∀ i ∈ c, (-9223372036854775808 <= i.1 /\ i.1 <= 9223372036854775807) /\ (-9223372036854775808 <= i.2 /\ i.2 <= 9223372036854775807)) /\ c.length <= 9223372036854775807
def GdWf (g : Gd) : Prop := I64 g.code /\ CodeWf g.test
def SeWf (s : Se) : Prop := I64 s.var /\ CodeWf s.value
def SpWf (s : Sp) : Prop := (∀ x ∈ s.sets, SeWf x) /\ s.sets.length <= 9223372036854775807 /\ I64 s.to
def RlWf (r : Rl) : Prop := r.name.length <= 9223372036854775807 /\ I64 r.args /\ ((∀ x ∈ r.from_, I64 x) /\ r.from_.length <= 9223372036854775807) /\ ((∀ x ∈ r.guards, GdWf x) /\ r.guards.length <= 9223372036854775807) /\ ((∀ x ∈ r.steps, SpWf x) /\ r.steps.length <= 9223372036854775807)
def TbWf (t : Tb) : Prop := ((∀ x ∈ t.states, x.length <= 9223372036854775807) /\ t.states.length <= 9223372036854775807) /\ ((∀ x ∈ t.vars, x.length <= 9223372036854775807) /\ t.vars.length <= 9223372036854775807) /\
 ((∀ x ∈ t.start, I64 x) /\ t.start.length <= 9223372036854775807) /\ ((∀ x ∈ t.rules, RlWf x) /\ t.rules.length <= 9223372036854775807)
def SlOf {X : Type} (w : World) (k : Nat) (Q : List Value -> X -> Prop) (v : Value) (xs : List X) : Prop :=
 ∃ a cap, v = .slice a xs.length cap /\ ∀ j x, xs[j]? = some x -> ∃ b off, a = some ⟨b, off, none⟩ /\ ∃ cs, cs.length = k /\ Q cs x /\ ∀ i c, cs[i]? = some c -> w.cell? ⟨b, off + j * k + i, none⟩ = some c
theorem SlOf.nil {X : Type} (w : World) (k : Nat) (Q : List Value -> X -> Prop) : SlOf w k Q (.slice none 0 0) [] := ⟨none, 0, rfl, fun j i h => by simp at h⟩
theorem SlOf.below {X : Type} {w w' : World} {k : Nat} {Q Q' : List Value -> X -> Prop} {v : Value} {xs : List X} (h : SlOf w k Q v xs) (hb : Below w.heap.size w w') (hq : ∀ cs x, Q cs x -> Q' cs x) : SlOf w' k Q' v xs := by
 obtain ⟨a, cap, rfl, hc⟩ := h;refine ⟨a, cap, rfl, fun j x hj => ?_⟩;obtain ⟨b, off, ha, cs, hl, hQ, h1⟩ := hc j x hj;exact ⟨b, off, ha, cs, hl, hq _ _ hQ, fun i c hi => (hb.cell (p := ⟨b, off + j * k + i, none⟩) (World.block_lt_of_cell? w _ (h1 i c hi))).trans (h1 i c hi)⟩
theorem SlOf.at {X : Type} {w : World} {k : Nat} {Q : List Value -> X -> Prop} {a : Option Addr} {len cap : Nat} {xs : List X} {j : Nat} {x : X} (h : SlOf w k Q (.slice a len cap) xs) (hi : xs[j]? = some x) :
 ∃ b off, a = some ⟨b, off, none⟩ /\ ∃ cs, cs.length = k /\ Q cs x /\ ∀ i c, cs[i]? = some c -> w.cell? ⟨b, off + j * k + i, none⟩ = some c := by
 obtain ⟨a', cap', e, hc⟩ := h;cases e
 exact hc j x hi
theorem kept_cell {w w' : World} {g j : Nat} {u : Value} (hb : Below w.heap.size w w') (h : w.cell? ⟨g, j, none⟩ = some u) : w'.cell? ⟨g, j, none⟩ = some u :=
 (hb.cell (p := ⟨g, j, none⟩) (World.block_lt_of_cell? w _ h)).trans h
def SlN (w : World) (v : Value) (xs : List Int) : Prop := Sl w v (xs.map fun n => .int .i64 n)
def SlB (w : World) (v : Value) (xs : List Bs) : Prop := Sl w v (xs.map sv)
def GdIs (w : World) (cs : List Value) (g : Gd) : Prop := ∃ t, cs = [.int .i64 g.code, t] /\ SlI w t g.test
def SeIs (w : World) (cs : List Value) (s : Se) : Prop := ∃ t, cs = [.int .i64 s.var, t] /\ SlI w t s.value
def SpIs (w : World) (cs : List Value) (s : Sp) : Prop := ∃ v, cs = [v, .int .i64 s.to] /\ SlOf w 2 (SeIs w) v s.sets
def RlIs (w : World) (cs : List Value) (r : Rl) : Prop := ∃ f g s, cs = [sv r.name, .int .i64 r.args, f, g, s] /\ SlN w f r.from_ /\ SlOf w 2 (GdIs w) g r.guards /\ SlOf w 2 (SpIs w) s r.steps
def TbIs (w : World) (cs : List Value) (t : Tb) : Prop := ∃ s x n r, cs = [s, x, n, r] /\ SlB w s t.states /\ SlB w x t.vars /\ SlN w n t.start /\ SlOf w 5 (RlIs w) r t.rules
theorem GdIs.below {w w' : World} {cs : List Value} {g : Gd} (h : GdIs w cs g) (hb : Below w.heap.size w w') : GdIs w' cs g := by
 obtain ⟨t, rfl, h⟩ := h; exact ⟨t, rfl, h.below hb⟩
theorem SeIs.below {w w' : World} {cs : List Value} {g : Se} (h : SeIs w cs g) (hb : Below w.heap.size w w') : SeIs w' cs g := by
 obtain ⟨t, rfl, h⟩ := h; exact ⟨t, rfl, h.below hb⟩
theorem SpIs.below {w w' : World} {cs : List Value} {g : Sp} (h : SpIs w cs g) (hb : Below w.heap.size w w') : SpIs w' cs g := by
 obtain ⟨t, rfl, h⟩ := h; exact ⟨t, rfl, h.below hb (fun _ _ q => q.below hb)⟩
theorem RlIs.below {w w' : World} {cs : List Value} {g : Rl} (h : RlIs w cs g) (hb : Below w.heap.size w w') : RlIs w' cs g := by
 obtain ⟨f, x, s, rfl, h1, h2, h3⟩ := h; exact ⟨f, x, s, rfl, Sl.below h1 hb, h2.below hb (fun _ _ q => q.below hb), h3.below hb (fun _ _ q => q.below hb)⟩
theorem TbIs.below {w w' : World} {cs : List Value} {g : Tb} (h : TbIs w cs g) (hb : Below w.heap.size w w') : TbIs w' cs g := by
 obtain ⟨s, x, n, r, rfl, h1, h2, h3, h4⟩ := h; exact ⟨s, x, n, r, rfl, Sl.below h1 hb, Sl.below h2 hb, Sl.below h3 hb, h4.below hb (fun _ _ q => q.below hb)⟩
section
variable {H : Type} {enc : TypeId × Value -> H} {P : Program} {W : World}
theorem of_field {X : Type} [Inhabited X] {t e : TypeId} {k : Nat} (ht : P.underlying t = some (.slice e)) (hc : P.cellsOf e = k) (hk : 0 < k) {Q : List Value -> X -> Prop} {R : X -> Prop}
 (each : ∀ fuel cs y, cs.length = k -> DataW.trod enc P W 0 (fun _ => true) true fuel e cs = some y -> ∃ x, Q cs x /\ R x) {fuel : Nat} {v : Value} {y : DataW H × List MemPlace}
 (hf : DataW.trod enc P W 0 (fun _ => true) true fuel t [v] = some y) : ∃ xs : List X, SlOf W k Q v xs /\ (∀ x ∈ xs, R x) /\ xs.length <= 9223372036854775807 := by
 rcases Go.Deep.open_slice ht hf with ⟨hcs, _⟩ | ⟨a, len, cap, m, n, D, Pl, hcs, _, hl, hm, hmm, _, hx⟩
 ·simp at hcs
  subst hcs;exact ⟨[], SlOf.nil W k Q, by simp, by simp⟩
 ·simp at hcs
  subst hcs;rw [hc] at hx;have hm' : m = cap := by simpa using hmm
  obtain ⟨X, hX⟩ := Go.Deep.choose_lt (α := X × List Value) (n := m) (p := fun i x => x.2.length = k /\ Q x.2 x.1 /\ R x.1 /\ ∀ j c, x.2[j]? = some c -> W.cell? ((a.add (i * k)).add j) = some c) (fun i hi => by
   obtain ⟨cs', h1, h2⟩ := hx i hi;obtain ⟨_, hlen, hcell⟩ := World.cells?_some h1;obtain ⟨x, q, r⟩ := each _ cs' _ hlen h2;refine ⟨(x, cs'), hlen, q, r, fun j c hj => ?_⟩;have hjl := (List.getElem?_eq_some_iff.1 hj).1;rw [hcell j (by simpa using hlen ▸ hjl)];exact hj)
  refine ⟨(List.range len).map fun i => (X i).1, ⟨some a, cap, by simp, fun j i hj => ?_⟩, fun x hxm => ?_, by simp; exact Nat.le_trans hl (Nat.le_trans hm (by decide))⟩
  ·have hjl : j < len := by
    have := (List.getElem?_eq_some_iff.1 hj).1;simpa using this
   rw [List.getElem?_map, List.getElem?_range hjl] at hj;have hj' : (X j).1 = i := by simpa using hj
   obtain ⟨c0, c1, c2, c3⟩ := hX j (by omega);rw [hj'] at c1;obtain ⟨b, off, spot⟩ := a;have hs : spot = none := by
    obtain ⟨z0, _, _, z3⟩ := hX 0 (by omega);have hk0 : 0 < (X 0).2.length := by omega
    have := World.cell?_spot (z3 0 _ (List.getElem?_eq_getElem hk0));simpa [Addr.add] using this
   subst hs;refine ⟨b, off, rfl, (X j).2, c0, c1, fun i c hi => ?_⟩;have := c3 i c hi;rw [add_plain, add_plain] at this;exact this
  ·obtain ⟨j, hj, rfl⟩ := List.mem_map.1 hxm
   exact (hX j (by have := List.mem_range.1 hj; omega)).2.2.1
end
end Go.Proofs.YtjcajeehgjpmmaaGreatDoor.R
