/-
  Layer 6, plainly: the text of a table, and what a text says.
-/
import Derived.Test.YtjcajeehgjpmmaaGreatDoorChecked
import Derived.Test.YtjcajeehgjpmmaaGreatDoorRTab
import Derived.OpenShut
import Derived.Lib.AtoiTie
import Derived.Lib.ItoaNum
import Derived.Lib.TrimByte
import Derived.Lib.Join
namespace Go.Proofs.YtjcajeehgjpmmaaGreatDoor.K
open Go Go.RowKit Go.ChangeShapes Go.WideShapes Go.ChangeAt
section
variable {H : Type} {enc : TypeId × Value -> H} {P : Program} {W : World}
theorem Sl.args {v : Value} {a : Addr} {len cap : Nat} {all : List Value} (hlen : len <= all.length) (hv : v = .slice (some a) len cap) (hc : ∀ i u, all[i]? = some u -> W.cell? (a.add i) = some u) : Sl W v (all.take len) := by
 subst hv;have hl : (all.take len).length = len := by simp; omega
 refine ⟨some a, cap, by rw [hl], fun j u hj => ?_⟩;have hj' : j < len := by
  have := (List.getElem?_eq_some_iff.1 hj).1;omega
 rw [List.getElem?_take_of_lt hj'] at hj;have h0 := hc j u hj;have h1 : a.spot = none := by
  have hz : all[0]? = some all[0] := List.getElem?_eq_getElem (by omega);simpa [Addr.add] using World.cell?_spot (hc 0 _ hz)
 obtain ⟨b, off, spot⟩ := a;subst h1;exact ⟨b, off, rfl, by rw [<- add_plain]; exact h0⟩
theorem ints_field {t e : TypeId} (ht : P.underlying t = some (.slice e)) (he : P.underlying e = some (.int .i64)) (hc : P.cellsOf e = 1) {fuel : Nat} {v : Value} {y : DataW H × List MemPlace}
 (hf : DataW.trod enc P W 0 (fun _ => true) true fuel t [v] = some y) :
 ∃ xs : List Int, Sl W v (xs.map (Value.int .i64)) /\ (∀ x ∈ xs, -9223372036854775808 <= x /\ x <= 9223372036854775807) /\ xs.length <= maxLen := by
 rcases open_ints ht he hc hf with ⟨hcs, _⟩ | ⟨a, len, cap, zs, hcs, _, hl, hm, hz, _, hcell, hwz⟩
 ·simp at hcs
  subst hcs;exact ⟨[], Sl.nil W, by simp, by simp⟩
 ·simp at hcs
  subst hcs;simp only [if_true] at hz;refine ⟨zs.take len, ?_, fun x hx => ?_, by rw [List.length_take]; omega⟩
  ·rw [List.map_take]
   refine Sl.args (by rw [List.length_map]; omega) rfl (fun i u hi => ?_);rw [List.getElem?_map] at hi;cases hzi : zs[i]? with
   | none => rw [hzi] at hi; cases hi
   | some z =>
    rw [hzi] at hi;obtain ⟨hil, hze⟩ := List.getElem?_eq_some_iff.1 hzi;have := hcell i hil;rw [this, <- hi];simp [List.getD, hzi]
  ·have := hwz x (List.mem_of_mem_take hx)
   simpa [Lit.wf, IntKind.min, IntKind.max, IntKind.signed, IntKind.bits] using this
end
end Go.Proofs.YtjcajeehgjpmmaaGreatDoor.K
namespace Go.Proofs.YtjcajeehgjpmmaaGreatDoor.R
open Go Go.RowKit Go.ChangeShapes Go.WideShapes Go.ChangeAt B K E
set_option linter.unusedVariables false
section
variable {H : Type} {enc : TypeId × Value -> H} {W : World}
theorem each_cell {P : Program} {t : TypeId} {fs : Array Field} (hs : P.underlying t = some (.struct fs)) (hone : Deep.oneCellFields P fs = true) (hC : P.cellsOf t = fs.size) {fuel : Nat} {cs : List Value} {y : DataW H × List MemPlace}
 (hf : DataW.trod enc P W 0 (fun _ => true) true fuel t cs = some y) :
 cs.length = fs.size /\ ∃ n, ∀ (j : Nat) (f : Field), fs[j]? = some f -> ∃ c z, cs[j]? = some c /\ DataW.trod enc P W 0 (fun _ => true) true n f.type [c] = some z := by
 obtain ⟨xs, n, _, hx, hcl, hxl, hg⟩ := DataW.trod_struct hs hf;have hlen : cs.length = fs.size := hcl.trans hC;refine ⟨hlen, n, fun j f hj => ?_⟩;obtain ⟨ho, hk⟩ := Deep.hone_of hone j f hj;have hjl : j < fs.size := (Array.getElem?_eq_some_iff.1 hj).1;have h1 := hg j f hj;rw [ho, hk, List.drop_eq_getElem_cons (by omega : j < cs.length), List.getElem?_eq_getElem (by omega : j < xs.length)] at h1;exact ⟨cs[j]'(by omega), _, List.getElem?_eq_getElem (by omega), h1⟩
theorem list2 {cs : List Value} {a b : Value} (h : cs.length = 2) (ha : cs[0]? = some a) (hb : cs[1]? = some b) : cs = [a, b] := by
 match cs, h, ha, hb with
 | [_, _], _, ha, hb => simp at ha hb; rw [ha, hb]
theorem list4 {cs : List Value} {a b c d : Value} (h : cs.length = 4) (ha : cs[0]? = some a) (hb : cs[1]? = some b) (hc : cs[2]? = some c) (hd : cs[3]? = some d) : cs = [a, b, c, d] := by
 match cs, h, ha, hb, hc, hd with
 | [_, _, _, _], _, ha, hb, hc, hd => simp at ha hb hc hd; rw [ha, hb, hc, hd]
theorem list5 {cs : List Value} {a b c d e : Value} (h : cs.length = 5) (ha : cs[0]? = some a) (hb : cs[1]? = some b) (hc : cs[2]? = some c) (hd : cs[3]? = some d) (he : cs[4]? = some e) : cs = [a, b, c, d, e] := by
 match cs, h, ha, hb, hc, hd, he with
 | [_, _, _, _, _], _, ha, hb, hc, hd, he => simp at ha hb hc hd he; rw [ha, hb, hc, hd, he]
theorem int_cell {n : Nat} {c : Value} {z : DataW H × List MemPlace} (h : DataW.trod enc Tryz.prog W 0 (fun _ => true) true n 3 [c] = some z) : ∃ x, c = .int .i64 x /\ I64 x := by
 obtain ⟨x, g, _, wx⟩ := DataW.trod_int Tryz.underlying3 h;simp only [List.cons.injEq, and_true] at g;refine ⟨x, g, ?_⟩;have := wx;simp [Lit.wf, IntKind.min, IntKind.max, IntKind.signed, IntKind.bits] at this;exact this
theorem str_cell {n : Nat} {c : Value} {z : DataW H × List MemPlace} (h : DataW.trod enc Tryz.prog W 0 (fun _ => true) true n 9 [c] = some z) : ∃ l, c = sv l /\ l.length <= 9223372036854775807 := by
 obtain ⟨s, g, _, ws⟩ := DataW.trod_string Tryz.underlying9 h;simp only [List.cons.injEq, and_true] at g;refine ⟨s.data.toList, by rw [g]; unfold sv; rw [str_eq], ?_⟩;exact Nat.le_trans (Nat.le_of_eq rfl) (Nat.le_trans ws (by decide))
theorem code_cell {n : Nat} {c : Value} {z : DataW H × List MemPlace} (h : DataW.trod enc Tryz.prog W 0 (fun _ => true) true n 54 [c] = some z) : ∃ l, SlI W c l /\ CodeWf l := by
 obtain ⟨code, hs, hwf, hl⟩ := pairs_field Tryz.underlying54 Tryz.underlying100 rfl rfl rfl rfl Tryz.underlying3 Tryz.underlying3 (by kernel_rfl) (by kernel_rfl) (by kernel_rfl) h;exact ⟨code, hs, hwf, Nat.le_trans hl (by decide)⟩
theorem ints_cell {n : Nat} {c : Value} {z : DataW H × List MemPlace} (h : DataW.trod enc Tryz.prog W 0 (fun _ => true) true n 23 [c] = some z) : ∃ l, SlN W c l /\ (∀ x ∈ l, I64 x) /\ l.length <= 9223372036854775807 := by
 obtain ⟨l, hs, hw, hl⟩ := ints_field Tryz.underlying23 Tryz.underlying3 (by kernel_rfl) h;exact ⟨l, hs, hw, Nat.le_trans hl (by decide)⟩
theorem strs_cell {n : Nat} {c : Value} {z : DataW H × List MemPlace} (h : DataW.trod enc Tryz.prog W 0 (fun _ => true) true n 22 [c] = some z) : ∃ l, SlB W c l /\ (∀ x ∈ l, x.length <= 9223372036854775807) /\ l.length <= 9223372036854775807 := by
 obtain ⟨l, ⟨a, cap, rfl, hs⟩, hr, hl⟩ := of_field (X := Bs) (k := 1) (Q := fun cs x => cs = [sv x]) (R := fun x => x.length <= 9223372036854775807) Tryz.underlying22 (by kernel_rfl) (by decide) (fun fuel cs y hl hy => by
  match cs, hl, hy with
  | [c], _, hy =>
   obtain ⟨l, rfl, h⟩ := str_cell hy;exact ⟨l, rfl, h⟩) h
 refine ⟨l, ⟨a, cap, by rw [List.length_map], fun j u hj => ?_⟩, hr, hl⟩;rw [List.getElem?_map] at hj;obtain ⟨x, hx, rfl⟩ := Option.map_eq_some_iff.1 hj;obtain ⟨b, off, ha, cs, _, rfl, hc⟩ := hs j x hx;exact ⟨b, off, ha, by have := hc 0 _ rfl; simpa using this⟩
theorem gd_cell {n : Nat} {cs : List Value} {z : DataW H × List MemPlace} (h : DataW.trod enc Tryz.prog W 0 (fun _ => true) true n 56 cs = some z) : ∃ g, GdIs W cs g /\ GdWf g := by
 obtain ⟨hl, m, hf⟩ := each_cell Tryz.underlying56 (by kernel_rfl) (by kernel_rfl) h;obtain ⟨c0, z0, e0, t0⟩ := hf 0 _ rfl;obtain ⟨c1, z1, e1, t1⟩ := hf 1 _ rfl;obtain rfl := list2 hl e0 e1;obtain ⟨x, rfl, hx⟩ := int_cell t0;obtain ⟨l, hs, hw⟩ := code_cell t1;exact ⟨⟨x, l⟩, ⟨c1, rfl, hs⟩, hx, hw⟩
theorem se_cell {n : Nat} {cs : List Value} {z : DataW H × List MemPlace} (h : DataW.trod enc Tryz.prog W 0 (fun _ => true) true n 62 cs = some z) : ∃ g, SeIs W cs g /\ SeWf g := by
 obtain ⟨hl, m, hf⟩ := each_cell Tryz.underlying62 (by kernel_rfl) (by kernel_rfl) h;obtain ⟨c0, z0, e0, t0⟩ := hf 0 _ rfl;obtain ⟨c1, z1, e1, t1⟩ := hf 1 _ rfl;obtain rfl := list2 hl e0 e1;obtain ⟨x, rfl, hx⟩ := int_cell t0;obtain ⟨l, hs, hw⟩ := code_cell t1;exact ⟨⟨x, l⟩, ⟨c1, rfl, hs⟩, hx, hw⟩
instance : Inhabited Se := ⟨⟨0, []⟩⟩
instance : Inhabited Gd := ⟨⟨0, []⟩⟩
instance : Inhabited Sp := ⟨⟨[], 0⟩⟩
instance : Inhabited Rl := ⟨⟨[], 0, [], [], []⟩⟩
theorem sp_cell {n : Nat} {cs : List Value} {z : DataW H × List MemPlace} (h : DataW.trod enc Tryz.prog W 0 (fun _ => true) true n 60 cs = some z) : ∃ g, SpIs W cs g /\ SpWf g := by
 obtain ⟨hl, m, hf⟩ := each_cell Tryz.underlying60 (by kernel_rfl) (by kernel_rfl) h;obtain ⟨c0, z0, e0, t0⟩ := hf 0 _ rfl;obtain ⟨c1, z1, e1, t1⟩ := hf 1 _ rfl;obtain rfl := list2 hl e0 e1;obtain ⟨x, rfl, hx⟩ := int_cell t1;obtain ⟨l, hs, hw, hn⟩ := of_field (X := Se) (k := 2) (Q := SeIs W) (R := SeWf) Tryz.underlying58 (by kernel_rfl) (by decide) (fun fuel cs y _ hy => se_cell hy) t0;exact ⟨⟨l, x⟩, ⟨c0, rfl, hs⟩, hw, hn, hx⟩
theorem rl_cell {n : Nat} {cs : List Value} {z : DataW H × List MemPlace} (h : DataW.trod enc Tryz.prog W 0 (fun _ => true) true n 44 cs = some z) : ∃ g, RlIs W cs g /\ RlWf g := by
 obtain ⟨hl, m, hf⟩ := each_cell Tryz.underlying44 (by kernel_rfl) (by kernel_rfl) h;obtain ⟨c0, z0, e0, t0⟩ := hf 0 _ rfl;obtain ⟨c1, z1, e1, t1⟩ := hf 1 _ rfl;obtain ⟨c2, z2, e2, t2⟩ := hf 2 _ rfl;obtain ⟨c3, z3, e3, t3⟩ := hf 3 _ rfl;obtain ⟨c4, z4, e4, t4⟩ := hf 4 _ rfl;obtain rfl := list5 hl e0 e1 e2 e3 e4;obtain ⟨nm, rfl, hnm⟩ := str_cell t0;obtain ⟨x, rfl, hx⟩ := int_cell t1;obtain ⟨fr, f1, f2, f3⟩ := ints_cell t2;obtain ⟨gs, g1, g2, g3⟩ := of_field (X := Gd) (k := 2) (Q := GdIs W) (R := GdWf) Tryz.underlying41 (by kernel_rfl) (by decide) (fun fuel cs y _ hy => gd_cell hy) t3;obtain ⟨ss, s1, s2, s3⟩ := of_field (X := Sp) (k := 2) (Q := SpIs W) (R := SpWf) Tryz.underlying42 (by kernel_rfl) (by decide) (fun fuel cs y _ hy => sp_cell hy) t4;exact ⟨⟨nm, x, fr, gs, ss⟩, ⟨c2, c3, c4, rfl, f1, g1, s1⟩, hnm, hx, ⟨f2, f3⟩, ⟨g2, g3⟩, ⟨s2, s3⟩⟩
theorem rules_cell {n : Nat} {c : Value} {z : DataW H × List MemPlace} (h : DataW.trod enc Tryz.prog W 0 (fun _ => true) true n 24 [c] = some z) : ∃ l, SlOf W 5 (RlIs W) c l /\ (∀ x ∈ l, RlWf x) /\ l.length <= 9223372036854775807 :=
 of_field (X := Rl) (k := 5) (Q := RlIs W) (R := RlWf) Tryz.underlying24 (by kernel_rfl) (by decide) (fun fuel cs y _ hy => rl_cell hy) h
theorem tb_cells {n : Nat} {c0 c1 c2 c3 : Value} {z0 z1 z2 z3 : DataW H × List MemPlace} (t0 : DataW.trod enc Tryz.prog W 0 (fun _ => true) true n 22 [c0] = some z0) (t1 : DataW.trod enc Tryz.prog W 0 (fun _ => true) true n 22 [c1] = some z1)
 (t2 : DataW.trod enc Tryz.prog W 0 (fun _ => true) true n 23 [c2] = some z2) (t3 : DataW.trod enc Tryz.prog W 0 (fun _ => true) true n 24 [c3] = some z3) : ∃ t, TbIs W [c0, c1, c2, c3] t /\ TbWf t := by
 obtain ⟨ss, a1, a2, a3⟩ := strs_cell t0;obtain ⟨xs, b1, b2, b3⟩ := strs_cell t1;obtain ⟨st, d1, d2, d3⟩ := ints_cell t2;obtain ⟨rs, r1, r2, r3⟩ := rules_cell t3;exact ⟨⟨ss, xs, st, rs⟩, ⟨c0, c1, c2, c3, rfl, a1, b1, d1, r1⟩, ⟨a2, a3⟩, ⟨b2, b3⟩, ⟨d2, d3⟩, ⟨r2, r3⟩⟩
set_option maxRecDepth 100000 in
theorem tb_arg {base : Nat} {v : Value} {d : DataW H} {p : List MemPlace} (hval : Value.okWide Tryz.prog W .any base 26 v) (hd : DataW.Trod enc Tryz.prog W 0 (fun _ => true) true 26 v d p) :
 ∃ c0 c1 c2 c3 t, v = .agg #[c0, c1, c2, c3] /\ TbIs W [c0, c1, c2, c3] t /\ TbWf t := by
 obtain ⟨cs, rfl, hsz⟩ := okWide_struct Tryz.underlying26 hval;obtain ⟨fuel, hf0⟩ := hd;obtain ⟨hl, m, hf⟩ := each_cell Tryz.underlying26 (by kernel_rfl) (by kernel_rfl) (show DataW.trod enc Tryz.prog W 0 (fun _ => true) true fuel 26 cs.toList = some (d, p) from hf0);obtain ⟨c0, z0, e0, t0⟩ := hf 0 _ rfl;obtain ⟨c1, z1, e1, t1⟩ := hf 1 _ rfl;obtain ⟨c2, z2, e2, t2⟩ := hf 2 _ rfl;obtain ⟨c3, z3, e3, t3⟩ := hf 3 _ rfl;have hcs := list4 hl e0 e1 e2 e3;obtain ⟨l⟩ := cs;obtain rfl : l = [c0, c1, c2, c3] := hcs;obtain ⟨t, h1, h2⟩ := tb_cells t0 t1 t2 t3;exact ⟨c0, c1, c2, c3, t, rfl, h1, h2⟩
end
abbrev Ft := Int × Int × Int × Int
def Ft.v (f : Ft) : Value := .agg #[.int .i64 f.1, .int .i64 f.2.1, .int .i64 f.2.2.1, .int .i64 f.2.2.2]
def firstBad (f : Nat -> Int) : Nat -> Nat -> Option (Nat × Int)
 | _, 0 => none
 | k, n + 1 => if f k ≠ 0 then some (k, f k) else firstBad f (k + 1) n
structure Pt where
 number : Int
 whole : Int
 places : Nat
 wrong : Nat -> Int
def ff (rule : Int) : List Pt -> Ft
 | [] => (0, 0, 0, 0)
 | p :: r => if p.whole ≠ 0 then (p.whole, rule, p.number, 0) else match firstBad p.wrong 0 p.places with
  | some x => (x.2, rule, p.number, (x.1 : Int))
  | none => ff rule r
def idxP {X : Type} (p : X -> Bool) (l : List X) : Int := match l.findIdx? p with
 | some k => (k : Int)
 | none => -1
def nameE (s : Bs) (ahead : Bool) : Int := if I.isName s = false then 6 else if ahead = true then 9 else 0
def placeE (n many : Int) (ahead : Bool) : Int := if 0 <= n /\ n < many then (if ahead = true then 9 else 0) else 3
def countE (n least most : Int) : Int := if most < n then 4 else if n < least then 2 else 0
def unlessE (b : Bool) (e : Int) : Int := if b = true then 0 else e
def nameBad (l : List Bs) (k : Nat) : Int := match l[k]? with
 | some s => nameE s ((l.take k).any fun x => x == s)
 | none => 0
def startBad (l : List Int) (k : Nat) : Int := match l[k]? with
 | some x => unlessE (isVal x) 3
 | none => 0
def fromBad (S : Int) (l : List Int) (k : Nat) : Int := match l[k]? with
 | some x => placeE x S ((l.take k).any fun y => y == x)
 | none => 0
def guardBad (V A : Int) (l : List Gd) (k : Nat) : Int := match l[k]? with
 | some g => if g.code < 16 \/ 63 < g.code then 3 else (check g.test V A).2
 | none => 0
def setBad (V A : Int) (l : List Se) (k : Nat) : Int := match l[k]? with
 | some s => if placeE s.var V ((l.take k).any fun y => y.var == s.var) ≠ 0 then placeE s.var V ((l.take k).any fun y => y.var == s.var) else (check s.value V A).2
 | none => 0
def badE : Option (Nat × Int) -> Int
 | some x => x.2
 | none => 0
def spBad (S V A : Int) (p : Sp) : Int := if S <= p.to then 3 else badE (firstBad (setBad V A p.sets) 0 p.sets.length)
def stepBad (S V A : Int) (l : List Sp) (k : Nat) : Int := match l[k]? with
 | some p => spBad S V A p
 | none => 0
def tableParts (t : Tb) : List Pt := [
 ⟨1, countE t.states.length 1 8, t.states.length, nameBad t.states⟩,
 ⟨2, countE t.vars.length 0 6, t.vars.length, nameBad t.vars⟩,
 ⟨3, unlessE (decide ((t.start.length : Int) = t.vars.length)) 2, t.start.length, startBad t.start⟩,
 ⟨4, countE t.rules.length 0 12, 0, fun _ => 0⟩]
def ruleParts (t : Tb) (n : Nat) (r : Rl) : List Pt := [
 ⟨5, nameE r.name ((t.rules.take n).any fun x => x.name == r.name), 0, fun _ => 0⟩,
 ⟨6, unlessE (decide (0 <= r.args /\ r.args <= 4)) 3, 0, fun _ => 0⟩,
 ⟨7, 0, r.from_.length, fromBad t.states.length r.from_⟩,
 ⟨8, countE r.guards.length 0 4, r.guards.length, guardBad t.vars.length r.args r.guards⟩,
 ⟨9, countE r.steps.length 1 3, r.steps.length, stepBad t.states.length t.vars.length r.args r.steps⟩]
def ffRules (t : Tb) : Nat -> Nat -> Ft
 | _, 0 => (0, 0, 0, 0)
 | n, m + 1 => match t.rules[n]? with
  | some r => if ff n (ruleParts t n r) ≠ (0, 0, 0, 0) then ff n (ruleParts t n r) else ffRules t (n + 1) m
  | none => (0, 0, 0, 0)
def chk5 (t : Tb) : Ft := if ff (-1) (tableParts t) ≠ (0, 0, 0, 0) then ff (-1) (tableParts t) else ffRules t 0 t.rules.length
theorem findIdx_some {X : Type} (p : X -> Bool) (l : List X) (K : Nat) (x : X) (hx : l[K]? = some x) (hp : p x = true) (h : ∀ (j : Nat) y, j < K -> l[j]? = some y -> p y = false) : l.findIdx? p = some K := by
 obtain ⟨hk, e⟩ := List.getElem?_eq_some_iff.1 hx;rw [List.findIdx?_eq_some_iff_getElem];refine ⟨hk, by rw [e]; exact hp, fun j hj => ?_⟩;rw [h j _ hj (List.getElem?_eq_getElem (Nat.lt_trans hj hk))];decide
theorem findIdx_none {X : Type} (p : X -> Bool) (l : List X) (h : ∀ (j : Nat) y, l[j]? = some y -> p y = false) : l.findIdx? p = none := by
 rw [List.findIdx?_eq_none_iff];intro x hx;obtain ⟨j, hj, rfl⟩ := List.getElem_of_mem hx;exact h j _ (List.getElem?_eq_getElem hj)
theorem idxP_lt {X : Type} (p : X -> Bool) (l : List X) (K : Nat) (x : X) (hx : l[K]? = some x) (hp : p x = true) : decide (idxP p l < (K : Int)) = (l.take K).any p := by
 unfold idxP;cases h : l.findIdx? p with
 | none =>
  rw [List.findIdx?_eq_none_iff] at h;have := h x (List.mem_of_getElem? hx);rw [hp] at this; cases this
 | some k =>
  rw [List.findIdx?_eq_some_iff_getElem] at h;obtain ⟨hk, hpk, hmin⟩ := h;rw [Bool.eq_iff_iff, decide_eq_true_iff, List.any_eq_true];constructor
  ·intro hlt
   have hlt : (k : Int) < (K : Int) := hlt;exact ⟨l[k], List.mem_of_getElem? (i := k) (by rw [List.getElem?_take, if_pos (by omega)]; exact List.getElem?_eq_getElem hk), hpk⟩
  ·rintro ⟨y, hy, hpy⟩
   obtain ⟨j, hj, rfl⟩ := List.getElem_of_mem hy;rw [List.length_take] at hj;rw [List.getElem_take] at hpy;have : ¬ j < k := fun hjk => by have := hmin j hjk; rw [hpy] at this; exact this rfl
   show (k : Int) < (K : Int)
   omega
theorem firstBad_at (f : Nat -> Int) (k n : Nat) : firstBad f k (n + 1) = if f k ≠ 0 then some (k, f k) else firstBad f (k + 1) n := rfl
theorem firstBad_ne (f : Nat -> Int) : ∀ n k x, firstBad f k n = some x -> x.2 ≠ 0
 | 0, k, x, h => by cases h
 | n + 1, k, x, h => by
  rw [firstBad_at] at h;split at h
  ·cases h; assumption
  ·exact firstBad_ne f n (k + 1) x h
theorem firstBad_none (f : Nat -> Int) : ∀ n k, firstBad f k n = none ↔ ∀ j, k <= j -> j < k + n -> f j = 0
 | 0, k => ⟨fun _ j h1 h2 => by omega, fun _ => rfl⟩
 | n + 1, k => by
  rw [firstBad_at];split
  ·rename_i h
   exact ⟨fun e => (by cases e), fun e => absurd (e k (Nat.le_refl _) (by omega)) h⟩
  ·rename_i h
   rw [firstBad_none f n (k + 1)];constructor
   ·intro g j h1 h2
    rcases Nat.eq_or_lt_of_le h1 with rfl | h3
    ·exact Decidable.not_not.1 h
    ·exact g j h3 (by omega)
   ·intro g j h1 h2
    exact g j (by omega) (by omega)
theorem ff_zero (rule : Int) : ∀ l : List Pt, ff rule l = (0, 0, 0, 0) ↔ ∀ p ∈ l, p.whole = 0 /\ ∀ j, j < p.places -> p.wrong j = 0
 | [] => ⟨fun _ p h => (by cases h), fun _ => rfl⟩
 | p :: r => by
  unfold ff;split
  ·rename_i h
   exact ⟨fun e => absurd (congrArg (·.1) e) h, fun e => absurd (e p List.mem_cons_self).1 h⟩
  ·rename_i h
   have h0 := Decidable.not_not.1 h;cases hf : firstBad p.wrong 0 p.places with
   | some x =>
    have hx := firstBad_ne _ _ _ _ hf;refine ⟨fun e => absurd (congrArg (·.1) e) hx, fun e => ?_⟩;have := (firstBad_none p.wrong p.places 0).2 (fun j _ hj => (e p List.mem_cons_self).2 j (by omega));rw [this] at hf; cases hf
   | none =>
    simp only;rw [ff_zero rule r];have hn := (firstBad_none p.wrong p.places 0).1 hf;constructor
    ·intro g q hq
     rcases List.mem_cons.1 hq with rfl | hq
     ·exact ⟨h0, fun j hj => hn j (Nat.zero_le _) (by omega)⟩
     ·exact g q hq
    ·exact fun g q hq => g q (List.mem_cons_of_mem _ hq)
theorem ffRules_zero (t : Tb) : ∀ m n, n + m = t.rules.length -> (ffRules t n m = (0, 0, 0, 0) ↔ ∀ k r, n <= k -> t.rules[k]? = some r -> ff k (ruleParts t k r) = (0, 0, 0, 0))
 | 0, n, h => ⟨fun _ k r h1 h2 => by have := (List.getElem?_eq_some_iff.1 h2).1; omega, fun _ => rfl⟩
 | m + 1, n, h => by
  obtain ⟨r, hr⟩ : ∃ r, t.rules[n]? = some r := ⟨_, List.getElem?_eq_getElem (by omega)⟩;unfold ffRules;rw [hr];simp only;split
  ·rename_i hne
   exact ⟨fun e => absurd e hne, fun e => absurd (e n r (Nat.le_refl _) hr) hne⟩
  ·rename_i hz
   have hz := Decidable.not_not.1 hz;rw [ffRules_zero t m (n + 1) (by omega)];constructor
   ·intro g k x h1 h2
    rcases Nat.eq_or_lt_of_le h1 with rfl | h3
    ·rw [hr] at h2; cases h2; exact hz
    ·exact g k x h3 h2
   ·exact fun g k x h1 h2 => g k x (by omega) h2
theorem chk5_zero (t : Tb) : chk5 t = (0, 0, 0, 0) ↔ (∀ p ∈ tableParts t, p.whole = 0 /\ ∀ j, j < p.places -> p.wrong j = 0) /\ ∀ k r, t.rules[k]? = some r -> ∀ p ∈ ruleParts t k r, p.whole = 0 /\ ∀ j, j < p.places -> p.wrong j = 0 := by
 unfold chk5;split
 ·rename_i h
  exact ⟨fun e => absurd e h, fun e => absurd ((ff_zero _ _).2 e.1) h⟩
 ·rename_i h
  have h0 := (ff_zero _ _).1 (Decidable.not_not.1 h);rw [ffRules_zero t _ 0 (by omega)];constructor
  ·exact fun g => ⟨h0, fun k r hr => (ff_zero _ _).1 (g k r (Nat.zero_le _) hr)⟩
  ·exact fun g k r _ hr => (ff_zero _ _).2 (g.2 k r hr)
theorem countE_zero {n a b : Int} (h : countE n a b = 0) : a <= n /\ n <= b := by
 unfold countE at h;split at h
 ·cases h
 ·split at h
  ·cases h
  ·omega
theorem placeE_zero {n m : Int} {b : Bool} (h : placeE n m b = 0) : 0 <= n /\ n < m /\ b = false := by
 unfold placeE at h;split at h
 ·rename_i h1
  split at h
  ·cases h
  ·rename_i h2; exact ⟨h1.1, h1.2, by simpa using h2⟩
 ·cases h
theorem unlessE_zero {b : Bool} {e : Int} (he : e ≠ 0) (h : unlessE b e = 0) : b = true := by
 unfold unlessE at h;split at h
 ·assumption
 ·exact absurd h he
theorem nameE_zero {s : Bs} {b : Bool} (h : nameE s b = 0) : I.isName s = true /\ b = false := by
 unfold nameE at h;split at h
 ·cases h
 ·rename_i h1
  split at h
  ·cases h
  ·rename_i h2; exact ⟨by simpa using h1, by simpa using h2⟩
structure Fine (t : Tb) : Prop where
 states : 0 < t.states.length /\ t.states.length <= 8
 vars : t.vars.length <= 6
 rules : t.rules.length <= 12
 from_ : ∀ r ∈ t.rules, r.from_.length <= 8 /\ ∀ x ∈ r.from_, 0 <= x /\ x < t.states.length
 guards : ∀ r ∈ t.rules, r.guards.length <= 4 /\ ∀ g ∈ r.guards, (check g.test t.vars.length r.args).2 = 0
 steps : ∀ r ∈ t.rules, r.steps.length <= 3 /\ ∀ p ∈ r.steps, p.to < t.states.length
 sets : ∀ r ∈ t.rules, ∀ p ∈ r.steps, ∀ s ∈ p.sets, (0 <= s.var /\ s.var < t.vars.length) /\ (check s.value t.vars.length r.args).2 = 0
theorem badE_zero {f : Nat -> Int} {k n : Nat} (h : badE (firstBad f k n) = 0) : firstBad f k n = none := by
 cases hx : firstBad f k n with
 | none => rfl
 | some x => rw [hx] at h; exact absurd h (firstBad_ne f n k x hx)
theorem pigeon : ∀ (S : Nat) (l : List Int), (∀ x ∈ l, 0 <= x /\ x < (S : Int)) -> l.Nodup -> l.length <= S
 | 0, [], _, _ => Nat.le_refl _
 | 0, x :: l, h, _ => by have := h x List.mem_cons_self; omega
 | S + 1, l, h, hn => by
  have h1 : (l.erase (S : Int)).length <= S := pigeon S _ (fun x hx => by
   have hx' := (List.Nodup.mem_erase_iff hn).1 hx;have := h x hx'.2;have : x ≠ (S : Int) := hx'.1;omega) (hn.erase _)
  by_cases hm : (S : Int) ∈ l
  ·have := List.length_erase_of_mem hm
   omega
  ·rw [List.erase_of_not_mem hm] at h1; omega
theorem nodup_of {X : Type} [BEq X] [LawfulBEq X] : ∀ (l : List X), (∀ (k : Nat) x, l[k]? = some x -> ((l.take k).any fun y => y == x) = false) -> l.Nodup := by
 intro l h;rw [List.nodup_iff_pairwise_ne, List.pairwise_iff_getElem];intro i j hi hj hij e;have := h j _ (List.getElem?_eq_getElem hj);rw [List.any_eq_false] at this;refine this l[i] (List.mem_of_getElem? (i := i) (by rw [List.getElem?_take, if_pos hij]; exact List.getElem?_eq_getElem hi)) ?_;rw [e]; exact beq_self_eq_true _
theorem fine_of {t : Tb} (h : chk5 t = (0, 0, 0, 0)) : Fine t := by
 obtain ⟨ht, hr⟩ := (chk5_zero t).1 h;have p0 := ht _ (show (⟨1, countE t.states.length 1 8, t.states.length, nameBad t.states⟩ : Pt) ∈ tableParts t by simp [tableParts]);have p1 := ht _ (show (⟨2, countE t.vars.length 0 6, t.vars.length, nameBad t.vars⟩ : Pt) ∈ tableParts t by simp [tableParts]);have p3 := ht _ (show (⟨4, countE t.rules.length 0 12, 0, fun _ => 0⟩ : Pt) ∈ tableParts t by simp [tableParts]);have q0 := countE_zero p0.1;have q1 := countE_zero p1.1;have q3 := countE_zero p3.1;have hfrom : ∀ r ∈ t.rules, ∀ (j : Nat) x, r.from_[j]? = some x -> placeE x t.states.length ((r.from_.take j).any fun y => y == x) = 0 := by
  intro r hrm j x hx;obtain ⟨k, hk⟩ := List.getElem?_of_mem hrm;have := (hr k r hk ⟨7, 0, r.from_.length, fromBad t.states.length r.from_⟩ (by simp [ruleParts])).2 j (List.getElem?_eq_some_iff.1 hx).1;simp only [fromBad, hx] at this;exact this
 have hguard : ∀ r ∈ t.rules, (0 : Int) <= r.guards.length /\ (r.guards.length : Int) <= 4 /\ ∀ (j : Nat), j < r.guards.length -> guardBad t.vars.length r.args r.guards j = 0 := by
  intro r hrm;obtain ⟨k, hk⟩ := List.getElem?_of_mem hrm;have := hr k r hk ⟨8, countE r.guards.length 0 4, r.guards.length, guardBad t.vars.length r.args r.guards⟩ (by simp [ruleParts]);have q := countE_zero this.1;exact ⟨q.1, q.2, this.2⟩
 have hstep : ∀ r ∈ t.rules, (r.steps.length : Int) <= 3 /\ ∀ (j : Nat), j < r.steps.length -> stepBad t.states.length t.vars.length r.args r.steps j = 0 := by
  intro r hrm;obtain ⟨k, hk⟩ := List.getElem?_of_mem hrm;have := hr k r hk ⟨9, countE r.steps.length 1 3, r.steps.length, stepBad t.states.length t.vars.length r.args r.steps⟩ (by simp [ruleParts]);have q := countE_zero this.1;exact ⟨q.2, this.2⟩
 have hsp : ∀ r ∈ t.rules, ∀ p ∈ r.steps, spBad t.states.length t.vars.length r.args p = 0 := by
  intro r hrm p hp;obtain ⟨j, hj⟩ := List.getElem?_of_mem hp;have := (hstep r hrm).2 j (List.getElem?_eq_some_iff.1 hj).1;simp only [stepBad, hj] at this;exact this
 refine ⟨⟨by omega, by omega⟩, by omega, by omega, fun r hrm => ⟨?_, ?_⟩, fun r hrm => ⟨by have := (hguard r hrm).2.1; omega, ?_⟩, fun r hrm => ⟨by have := (hstep r hrm).1; omega, ?_⟩, ?_⟩
 ·refine Nat.le_trans (pigeon t.states.length r.from_ (fun x hx => ?_) (nodup_of r.from_ fun k x hx => (placeE_zero (hfrom r hrm k x hx)).2.2)) (by omega)
  obtain ⟨j, hj⟩ := List.getElem?_of_mem hx;have := placeE_zero (hfrom r hrm j x hj);exact ⟨this.1, this.2.1⟩
 ·intro x hx
  obtain ⟨j, hj⟩ := List.getElem?_of_mem hx;have := placeE_zero (hfrom r hrm j x hj);exact ⟨this.1, this.2.1⟩
 ·intro g hg
  obtain ⟨j, hj⟩ := List.getElem?_of_mem hg;have := (hguard r hrm).2.2 j (List.getElem?_eq_some_iff.1 hj).1;simp only [guardBad, hj] at this;split at this
  ·cases this
  ·exact this
 ·intro p hp
  have := hsp r hrm p hp;unfold spBad at this;split at this
  ·cases this
  ·omega
 ·intro r hrm p hp s hs
  have := hsp r hrm p hp;unfold spBad at this;split at this
  ·cases this
  ·have hb := (firstBad_none _ _ _).1 (badE_zero this)
   obtain ⟨j, hj⟩ := List.getElem?_of_mem hs;have := hb j (Nat.zero_le _) (by have := (List.getElem?_eq_some_iff.1 hj).1; omega);simp only [setBad, hj] at this;split at this
   ·rename_i hne; exact absurd this hne
   ·rename_i hz
    have hz := placeE_zero (Decidable.not_not.1 hz);exact ⟨⟨hz.1, hz.2.1⟩, this⟩
end Go.Proofs.YtjcajeehgjpmmaaGreatDoor.R
namespace Go.Proofs.YtjcajeehgjpmmaaGreatDoor.I
open Go E
set_option linter.unusedVariables false
def exOf (code : List In) : Ex := match code.foldl push [] with | e :: _ => e | [] => .con 0
def showOf (vs : List Bs) (na : Int) (code : List In) : Bs × Int :=
 if (check code vs.length na).2 ≠ 0 then ([], (check code vs.length na).2) else (text vs (exOf code), 0)
theorem exOf_is (code : List In) (nv na : Int) (h : (check code nv na).2 = 0) : WF nv na (exOf code) /\ codeOf (exOf code) = code := by
 obtain ⟨e, hw, hc⟩ := ex_of code nv na h;have h1 := push_code nv na e hw [];rw [hc] at h1;have he : exOf code = e := by unfold exOf; rw [h1]
 rw [he];exact ⟨hw, hc⟩
theorem showOf_bad (vs : List Bs) (na : Int) (code : List In) (h : (check code vs.length na).2 ≠ 0) : showOf vs na code = ([], (check code vs.length na).2) := by unfold showOf; rw [if_pos h]
theorem showOf_good (vs : List Bs) (na : Int) (code : List In) (h : (check code vs.length na).2 = 0) : showOf vs na code = (text vs (exOf code), 0) := by unfold showOf; rw [if_neg (by omega)]
end Go.Proofs.YtjcajeehgjpmmaaGreatDoor.I
namespace Go.Proofs.YtjcajeehgjpmmaaGreatDoor.T
open Go E R
set_option linter.unusedVariables false
def behind (l : List Bs) : Bs := l.flatMap fun s => 32 :: s
def num (n : Int) : Bs := if n < 0 then 45 :: I.dig n.natAbs else I.dig n.natAbs
def wStates : Bs := [115, 116, 97, 116, 101, 115]
def wVars : Bs := [118, 97, 114, 115]
def wRule : Bs := [114, 117, 108, 101]
def wFrom : Bs := [102, 114, 111, 109]
def wGuard : Bs := [103, 117, 97, 114, 100]
def wStep : Bs := [115, 116, 101, 112]
def wSet : Bs := [58, 61]
def at_ (l : List Bs) (k : Int) : Bs := l.getD k.toNat []
def starts (t : Tb) : List Bs := (t.vars.zip t.start).map fun p => p.1 ++ 61 :: num p.2
def lnStates (t : Tb) : Bs := wStates ++ behind t.states
def lnVars (t : Tb) : Bs := wVars ++ behind (starts t)
def lnRule (t : Tb) (r : Rl) : Bs := wRule ++ behind (r.name :: num r.args :: (if r.from_.isEmpty then [] else wFrom :: r.from_.map (at_ t.states)))
def expr (t : Tb) (r : Rl) (c : List In) : Bs := (I.showOf t.vars r.args c).1
def lnGuard (t : Tb) (r : Rl) (g : Gd) : Bs := wGuard ++ behind [num g.code, expr t r g.test]
def setText (t : Tb) (r : Rl) (s : Se) : Bs := behind [at_ t.vars s.var, wSet, expr t r s.value]
def toText (t : Tb) (p : Sp) : Bs := if p.to < 0 then [45] else at_ t.states p.to
def lnStep (t : Tb) (r : Rl) (p : Sp) : Bs := wStep ++ behind [toText t p] ++ Lib.join (p.sets.map (setText t r)) [59]
def rlLines (t : Tb) (r : Rl) : List Bs := lnRule t r :: (r.guards.map (lnGuard t r) ++ r.steps.map (lnStep t r))
def lines (t : Tb) : List Bs := lnStates t :: lnVars t :: t.rules.flatMap (rlLines t)
def shownT (t : Tb) : Bs := (lines t).flatMap fun l => l ++ [10]
abbrev trim (s : Bs) : Bs := Lib.trimB s 32
abbrev trimL (s : Bs) : Bs := Lib.trimLeftB s 32
abbrev trimR (s : Bs) : Bs := Lib.trimRightB s 32
def upTo (c : UInt8) (s : Bs) : Bs := s.takeWhile (· != c)
def past (c : UInt8) (s : Bs) : Bs := (s.dropWhile (· != c)).drop 1
def hasB (c : UInt8) (s : Bs) : Bool := s.any (· == c)
def wd (s : Bs) : Bs := upTo 32 s
def nx (s : Bs) : Bs := trimL (past 32 s)
def pc (s : Bs) : Bs := trimR (upTo 59 s)
def pnx (s : Bs) : Bs := trimL (past 59 s)
theorem trimL_le (s : Bs) : (trimL s).length <= s.length := (List.dropWhile_suffix _).length_le
theorem past_lt (c : UInt8) (s : Bs) (h : s ≠ []) : (past c s).length < s.length := by
 unfold past;rw [List.length_drop];have := (List.dropWhile_suffix (l := s) (· != c)).length_le;have : 0 < s.length := List.length_pos_iff.2 h;omega
theorem nx_lt (s : Bs) (h : s ≠ []) : (nx s).length < s.length := Nat.lt_of_le_of_lt (trimL_le _) (past_lt 32 s h)
theorem pnx_lt (s : Bs) (h : s ≠ []) : (pnx s).length < s.length := Nat.lt_of_le_of_lt (trimL_le _) (past_lt 59 s h)
theorem nx_nil : nx [] = [] := rfl
def words (s : Bs) : List Bs := wd s :: (if h : nx s = [] then [] else words (nx s))
termination_by s.length
decreasing_by exact nx_lt s (fun e => h (by rw [e]; rfl))
def numOf (w : Bs) (least : Int) : Int × Int := match Lib.atoiAll w with
 | .ok n => if num n = w /\ least <= n /\ n <= 1099511627776 then (n, 0) else (0, 6)
 | _ => (0, 6)
def findN (l : List Bs) (w : Bs) : Int × Int := if I.isName w = false then (0, 6) else match l.findIdx? (· == w) with
 | some k => ((k : Int), 0)
 | none => (0, 8)
abbrev Ip := Bs -> List Bs -> Int -> Option (List In × Int)
abbrev Ln := Except Int Tb
def stLine (t : Tb) (s : Bs) : Ln := if (words s).all I.isName then .ok { t with states := t.states ++ words s } else .error 6
def vrItem (w : Bs) : Option (Bs × Int) := if (numOf (past 61 w) (-1099511627776)).2 = 0 /\ I.isName (upTo 61 w) = true then some (upTo 61 w, (numOf (past 61 w) (-1099511627776)).1) else none
def vrItems : List Bs -> Option (List (Bs × Int))
 | [] => some []
 | w :: r => match vrItem w with
  | none => none
  | some p => (vrItems r).map (p :: ·)
def vrLine (t : Tb) (s : Bs) : Ln := match vrItems (if s = [] then [] else words s) with
 | some l => .ok { t with vars := t.vars ++ l.map (·.1), start := t.start ++ l.map (·.2) }
 | none => .error 6
def findAll (l : List Bs) : List Bs -> Except Int (List Int)
 | [] => .ok []
 | w :: r => if (findN l w).2 ≠ 0 then .error (findN l w).2 else match findAll l r with
  | .ok x => .ok ((findN l w).1 :: x)
  | .error e => .error e
def rlFrom (t : Tb) (s : Bs) : Except Int (List Int) := if s = [] then .ok [] else if wd s ≠ wFrom then .error 6 else findAll t.states (words (nx s))
def rlLine (t : Tb) (s : Bs) : Ln :=
 if I.isName (wd s) = false then .error 6 else if (numOf (wd (nx s)) 0).2 ≠ 0 then .error (numOf (wd (nx s)) 0).2
 else match rlFrom t (nx (nx s)) with
  | .ok l => .ok { t with rules := t.rules ++ [⟨wd s, (numOf (wd (nx s)) 0).1, l, [], []⟩] }
  | .error e => .error e
def lastR (t : Tb) (f : Rl -> Rl) : Tb := match t.rules.getLast? with
 | some r => { t with rules := t.rules.dropLast ++ [f r] }
 | none => t
def gdLine (ip : Ip) (t : Tb) (r : Rl) (s : Bs) : Option Ln :=
 if (numOf (wd s) 0).2 ≠ 0 then some (.error (numOf (wd s) 0).2) else match ip (nx s) t.vars r.args with
  | none => none
  | some x => if x.2 ≠ 0 then some (.error x.2) else some (.ok (lastR t fun r => { r with guards := r.guards ++ [⟨(numOf (wd s) 0).1, x.1⟩] }))
def oneSet (ip : Ip) (t : Tb) (r : Rl) (s : Bs) : Option (Except Int Se) :=
 if (findN t.vars (wd s)).2 ≠ 0 then some (.error (findN t.vars (wd s)).2) else if wd (nx s) ≠ wSet then some (.error 6) else match ip (pc (nx (nx s))) t.vars r.args with
  | none => none
  | some x => if x.2 ≠ 0 then some (.error x.2) else some (.ok ⟨(findN t.vars (wd s)).1, x.1⟩)
def setsOf (ip : Ip) (t : Tb) (r : Rl) : Nat -> Bs -> Option (Except Int (List Se))
 | 0, _ => none
 | n + 1, s => match oneSet ip t r s with
  | none => none
  | some (.error e) => some (.error e)
  | some (.ok x) => if hasB 59 (nx (nx s)) = true then (match setsOf ip t r n (pnx (nx (nx s))) with
   | none => none
   | some (.error e) => some (.error e)
   | some (.ok l) => some (.ok (x :: l)))
   else some (.ok [x])
def goesTo (t : Tb) (w : Bs) : Int × Int := if w = [45] then (-1, 0) else findN t.states w
def spLine (ip : Ip) (t : Tb) (r : Rl) (s : Bs) : Option Ln :=
 if (goesTo t (wd s)).2 ≠ 0 then some (.error (goesTo t (wd s)).2) else match (if nx s = [] then some (.ok []) else setsOf ip t r (s.length + 1) (nx s)) with
  | none => none
  | some (.error e) => some (.error e)
  | some (.ok l) => some (.ok (lastR t fun r => { r with steps := r.steps ++ [⟨l, (goesTo t (wd s)).1⟩] }))
def line (ip : Ip) (t : Tb) (said : Nat) (s : Bs) : Option Ln :=
 if wd s = wStates /\ said = 0 then some (stLine t (nx s))
 else if wd s = wVars /\ said = 1 then some (vrLine t (nx s))
 else if wd s = wRule /\ 2 <= said then some (rlLine t (nx s))
 else match t.rules.getLast? with
  | none => some (.error 6)
  | some r => if wd s = wGuard /\ r.steps = [] then gdLine ip t r (nx s) else if wd s = wStep then spLine ip t r (nx s) else some (.error 6)
def empty : Tb := ⟨[], [], [], []⟩
def readL (ip : Ip) : List Bs -> Nat -> Tb -> Nat -> Option (Tb × Nat × Int)
 | [], n, t, said => if said < 2 then some (empty, n, 6) else some (t, 0, 0)
 | x :: r, n, t, said => if trim x = [] then readL ip r (n + 1) t said else match line ip t said (trim x) with
  | none => none
  | some (.error e) => some (empty, n, e)
  | some (.ok u) => readL ip r (n + 1) u (said + 1)
def cutL : Bs -> Bs -> List Bs
 | [], w => [w]
 | c :: r, w => if c = 10 then w :: cutL r [] else cutL r (w ++ [c])
def parseT (ip : Ip) (s : Bs) : Option (Tb × Nat × Int) := if 8192 < s.length then some (empty, 0, 4) else readL ip (cutL s []) 0 empty 0
end Go.Proofs.YtjcajeehgjpmmaaGreatDoor.T
