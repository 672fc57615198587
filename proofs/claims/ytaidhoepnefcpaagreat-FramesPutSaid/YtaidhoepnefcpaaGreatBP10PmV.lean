/-
  Layer 10, the program: slices.IndexFunc, ContainsFunc and mayList of surmise/api.Verdict.
-/
import Derived.Test.YtaidhoepnefcpaaGreatBP10Ra
namespace Go.Proofs.YtaidhoepnefcpaaGreat.C10
open Go Go.RowKit Go.Proofs B K P8
set_option linter.unusedVariables false
set_option maxRecDepth 100000
def FrV (base : Nat) (v : Value) : Prop := ∀ a n c, v = .slice (some a) n c -> base <= a.block
theorem FrV.mono {base base' : Nat} {v : Value} (h : FrV base v) (hb : base' <= base) : FrV base' v := fun a n c e => Nat.le_trans hb (h a n c e)
theorem FrV.nil (base : Nat) : FrV base (.slice none 0 0) := fun a n c e => by cases e
theorem FrV.new (base g n c : Nat) (h : base <= g) : FrV base (.slice (some ⟨g, 0, none⟩) n c) := fun a m k e => by cases e; exact h
theorem yu {b A i : Nat} {v : Value} {W W' : World} (t : Tg b W W') (hne : A ≠ b) (h : W.cell? ⟨A, i, none⟩ = some v) : W'.cell? ⟨A, i, none⟩ = some v := by
 have hlt := World.block_lt_of_cell? W _ h;have := t.block A hlt hne;unfold World.cell? at h ⊢;dsimp only at h ⊢;rw [this]; exact h
theorem Tg.above {b g : Nat} {w a c : World} (h : Tg b w a) (hg : w.heap.size <= g) (k : Tg g a c) : Tg b w c :=
 ⟨k.os.trans h.os, k.tape.trans h.tape, k.output.trans h.output, Nat.le_trans h.size k.size, fun i hi hne => (k.block i (Nat.lt_of_lt_of_le hi h.size) (fun e => by omega)).trans (h.block i hi hne)⟩
theorem zb {w : World} {g : Nat} {cs : Array Value} {T : TypeId} (h : w.heap[g]? = some (.cells cs T (0, 0))) (i : Nat) (v : Value) (hv : cs[i]? = some v) : w.cell? ⟨g, i, none⟩ = some v /\ w.frozen? ⟨g, i, none⟩ = false := by
 constructor
 ·simp [World.cell?, h, hv]
 ·simp [World.frozen?, h]
theorem SlN.tg {w w' : World} {v : Value} {xs : List Int} {g base : Nat} (h : SlN w v xs) (t : Tg g w w') (hf : FrV base v) (hg : g < base) : SlN w' v xs := by
 obtain ⟨a, cap, rfl, hc⟩ := h;refine ⟨a, cap, rfl, fun j u hj => ?_⟩;obtain ⟨b, off, rfl, h1⟩ := hc j u hj;exact ⟨b, off, rfl, yu t (by have := hf ⟨b, off, none⟩ _ _ rfl; dsimp only at this; omega) h1⟩
theorem SlOf.tg {X : Type} {w w' : World} {k : Nat} {Q Q' : List Value -> X -> Prop} {v : Value} {xs : List X} {g base : Nat} (h : SlOf w k Q v xs) (t : Tg g w w') (hf : FrV base v) (hg : g < base) (hq : ∀ cs x, Q cs x -> Q' cs x) : SlOf w' k Q' v xs := by
 obtain ⟨a, cap, rfl, hc⟩ := h;refine ⟨a, cap, rfl, fun j x hj => ?_⟩;obtain ⟨b, off, rfl, cs, hl, hQ, h1⟩ := hc j x hj;exact ⟨b, off, rfl, cs, hl, hq _ _ hQ, fun i c hi => yu t (by have := hf ⟨b, off, none⟩ _ _ rfl; dsimp only at this; omega) (h1 i c hi)⟩
theorem SlOf.imp {X : Type} {w : World} {k : Nat} {Q Q' : List Value -> X -> Prop} {v : Value} {xs : List X} (h : SlOf w k Q v xs) (hq : ∀ cs x, Q cs x -> Q' cs x) : SlOf w k Q' v xs := by
 obtain ⟨a, cap, rfl, hc⟩ := h;refine ⟨a, cap, rfl, fun j x hj => ?_⟩;obtain ⟨b, off, rfl, cs, hl, hQ, h1⟩ := hc j x hj;exact ⟨b, off, rfl, cs, hl, hq _ _ hQ, h1⟩
def Lie {X : Type} (k : Nat) (Q : List Value -> X -> Prop) (cs : List Value) (xs : List X) : Prop :=
 cs.length = xs.length * k /\ ∀ j x, xs[j]? = some x -> ∃ ds, ds.length = k /\ Q ds x /\ ∀ i c, ds[i]? = some c -> cs[j * k + i]? = some c
theorem Lie.nil {X : Type} (k : Nat) (Q : List Value -> X -> Prop) : Lie k Q [] [] := ⟨by simp, fun j x h => by simp at h⟩
theorem Lie.imp {X : Type} {k : Nat} {Q Q' : List Value -> X -> Prop} {cs : List Value} {xs : List X} (h : Lie k Q cs xs) (hq : ∀ ds x, Q ds x -> Q' ds x) : Lie k Q' cs xs :=
 ⟨h.1, fun j x hj => let ⟨ds, h1, h2, h3⟩ := h.2 j x hj; ⟨ds, h1, hq _ _ h2, h3⟩⟩
theorem Lie.snoc {X : Type} {k : Nat} {Q : List Value -> X -> Prop} {cs ds : List Value} {xs : List X} {x : X} (h : Lie k Q cs xs) (hl : ds.length = k) (hq : Q ds x) : Lie k Q (cs ++ ds) (xs ++ [x]) := by
 refine ⟨by rw [List.length_append, List.length_append, h.1, hl, List.length_singleton, Nat.add_mul, Nat.one_mul], fun j y hj => ?_⟩;by_cases hlt : j < xs.length
 ·rw [List.getElem?_append_left hlt] at hj
  obtain ⟨es, h1, h2, h3⟩ := h.2 j y hj;refine ⟨es, h1, h2, fun i c hi => ?_⟩;have := h3 i c hi;rw [List.getElem?_append_left (List.getElem?_eq_some_iff.1 this).1];exact this
 ·rw [List.getElem?_append_right (by omega)] at hj
  obtain ⟨h0, hx⟩ := List.getElem?_eq_some_iff.1 hj;have hj0 : j = xs.length := by simp at h0; omega
  subst hj0;simp at hx;subst hx;refine ⟨ds, hl, hq, fun i c hi => ?_⟩;rw [List.getElem?_append_right (by rw [h.1]; omega), h.1, show xs.length * k + i - xs.length * k = i by omega];exact hi
theorem Lie.slice {X : Type} {k : Nat} {Q : List Value -> X -> Prop} {cs : List Value} {xs : List X} {w : World} {g cap : Nat} {cur : Array Value} {T : TypeId} {fr : Nat × Nat} (h : Lie k Q cs xs) (hg : w.heap[g]? = some (.cells cur T fr)) (ht : cur.toList.take cs.length = cs) :
 SlOf w k Q (.slice (some ⟨g, 0, none⟩) xs.length cap) xs := by
 refine ⟨_, cap, rfl, fun j x hj => ⟨g, 0, rfl, ?_⟩⟩;obtain ⟨ds, h1, h2, h3⟩ := h.2 j x hj;refine ⟨ds, h1, h2, fun i c hi => ?_⟩;have hc := h3 i c hi;have hlt := (List.getElem?_eq_some_iff.1 hc).1;rw [<- ht, List.getElem?_take_of_lt hlt, Array.getElem?_toList] at hc;rw [Nat.zero_add];simp [World.cell?, hg, hc]
theorem sln_of {w : World} {v : Value} {xs : List Int} (h : SlOf w 1 (fun cs x => cs = [Value.int .i64 x]) v xs) : SlN w v xs := by
 obtain ⟨a, cap, rfl, hc⟩ := h;refine ⟨a, cap, by rw [List.length_map], fun j u hj => ?_⟩;rw [List.getElem?_map] at hj;obtain ⟨x, hx, rfl⟩ := Option.map_eq_some_iff.1 hj;obtain ⟨b, off, rfl, cs, -, rfl, h1⟩ := hc j x hx;exact ⟨b, off, rfl, by have := h1 0 _ rfl; rw [Nat.mul_one, Nat.add_zero] at this; exact this⟩
theorem slt_of {w : World} {v : Value} {xs : List (List UInt8)} (h : SlOf w 1 (fun cs x => cs = [Value.string (str x)]) v xs) : SlT w v xs := by
 obtain ⟨a, cap, rfl, hc⟩ := h;refine ⟨a, cap, by rw [List.length_map], fun j u hj => ?_⟩;rw [List.getElem?_map] at hj;obtain ⟨x, hx, rfl⟩ := Option.map_eq_some_iff.1 hj;obtain ⟨b, off, rfl, cs, -, rfl, h1⟩ := hc j x hx;exact ⟨b, off, rfl, by have := h1 0 _ rfl; rw [Nat.mul_one, Nat.add_zero] at this; exact this⟩
def QI (base : Nat) (w : World) (cs : List Value) (x : Int) : Prop := cs = [Value.int .i64 x]
def QS (base : Nat) (w : World) (cs : List Value) (x : List UInt8) : Prop := cs = [Value.string (str x)]
def QV (base : Nat) (w : World) (cs : List Value) (x : Vd) : Prop := cs = [Value.int .i64 x.seq, .int .i64 x.code]
def QE (base : Nat) (w : World) (cs : List Value) (x : Ev) : Prop := ∃ u, cs = [Value.int .i64 x.pos, u] /\ SlN w u x.vars /\ FrV base u
def QT (base : Nat) (w : World) (cs : List Value) (x : It) : Prop := ∃ u, cs = [Value.string (str x.stream), .int .i64 x.st.pos, .int .i64 x.st.ver, u] /\ SlN w u x.st.vars /\ FrV base u
theorem QI.tg {base g : Nat} {w w' : World} {cs : List Value} {x : Int} (h : QI base w cs x) (t : Tg g w w') (hg : g < base) : QI base w' cs x := h
theorem QS.tg {base g : Nat} {w w' : World} {cs : List Value} {x : List UInt8} (h : QS base w cs x) (t : Tg g w w') (hg : g < base) : QS base w' cs x := h
theorem QV.tg {base g : Nat} {w w' : World} {cs : List Value} {x : Vd} (h : QV base w cs x) (t : Tg g w w') (hg : g < base) : QV base w' cs x := h
theorem QE.tg {base g : Nat} {w w' : World} {cs : List Value} {x : Ev} (h : QE base w cs x) (t : Tg g w w') (hg : g < base) : QE base w' cs x := by
 obtain ⟨u, e, h1, h2⟩ := h; exact ⟨u, e, h1.tg t h2 hg, h2⟩
theorem QT.tg {base g : Nat} {w w' : World} {cs : List Value} {x : It} (h : QT base w cs x) (t : Tg g w w') (hg : g < base) : QT base w' cs x := by
 obtain ⟨u, e, h1, h2⟩ := h; exact ⟨u, e, h1.tg t h2 hg, h2⟩
theorem QI.mono {base base' : Nat} {w : World} {cs : List Value} {x : Int} (h : QI base w cs x) (hb : base' <= base) : QI base' w cs x := h
theorem QS.mono {base base' : Nat} {w : World} {cs : List Value} {x : List UInt8} (h : QS base w cs x) (hb : base' <= base) : QS base' w cs x := h
theorem QV.mono {base base' : Nat} {w : World} {cs : List Value} {x : Vd} (h : QV base w cs x) (hb : base' <= base) : QV base' w cs x := h
theorem QE.mono {base base' : Nat} {w : World} {cs : List Value} {x : Ev} (h : QE base w cs x) (hb : base' <= base) : QE base' w cs x := by
 obtain ⟨u, e, h1, h2⟩ := h; exact ⟨u, e, h1, h2.mono hb⟩
theorem QT.mono {base base' : Nat} {w : World} {cs : List Value} {x : It} (h : QT base w cs x) (hb : base' <= base) : QT base' w cs x := by
 obtain ⟨u, e, h1, h2⟩ := h; exact ⟨u, e, h1, h2.mono hb⟩
structure LsIs {X : Type} (k : Nat) (Q : Nat -> World -> List Value -> X -> Prop) (base : Nat) (w : World) (v : Value) (xs : List X) : Prop where
 list : SlOf w k (Q base w) v xs
 fr : FrV base v
theorem LsIs.nil {X : Type} (k : Nat) (Q : Nat -> World -> List Value -> X -> Prop) (base : Nat) (w : World) : LsIs k Q base w (.slice none 0 0) [] := ⟨SlOf.nil _ _ _, FrV.nil _⟩
theorem yH {P : Program} (w : World) (t e : TypeId) (i : TypeInfo) (z : Value) (ht : P.underlying t = some (.slice e)) (hi : P.info? e = some i) (hz : i.zero = some z) (n : Nat) (hb : i.bytes * n <= 281474976710656) (hn : n <= 256) :
 ∃ cur : Array Value, cur.size = n * i.size /\ (Instr.makeSlice t (.int .i64 (n : Int)) (.int .i64 (n : Int))).run P w = .ok (.slice (some ⟨w.heap.size, 0, none⟩) n n) (w.alloc (.cells cur e)) := by
 have := run_make (P := P) w t e i z ht hi hz .i64 .i64 (n : Int) (n : Int) (by omega) (by omega) (by rw [<- Int.natCast_mul]; exact Int.ofNat_le.2 hb) (by omega);rw [Int.toNat_natCast] at this;exact ⟨_, size_madeCells _ _, this⟩
theorem zG (n a b : Int) (w : World) :
 Calls Tryz.prog 167 #[.int .i64 n, .int .i64 a, .int .i64 b] w fun e w' => e = .returned (.bool (inn n a b)) /\ w = w' := by
 unfold inn;by_cases h1 : a <= n
 ·have d1 : decide (a <= n) = true := decide_eq_true h1
  by_cases h2 : n <= b
  ·have d2 : decide (n <= b) = true := decide_eq_true h2
   rw [d1, d2];go_enter Tryz.func167, Tryz.ntmps167;go_wp2_with fail;go_ret;exact ⟨rfl, rfl⟩
  ·have d2 : decide (n <= b) = false := decide_eq_false h2
   rw [d1, d2];go_enter Tryz.func167, Tryz.ntmps167;go_wp2_with fail;go_ret;exact ⟨rfl, rfl⟩
 ·have d1 : decide (a <= n) = false := decide_eq_false h1
  rw [d1];go_enter Tryz.func167, Tryz.ntmps167;go_wp2_with fail;go_ret;exact ⟨rfl, rfl⟩
theorem ql {X : Type} (item : Stp X) (most : Nat) (n : Int) (s : List UInt8) (p er : Int) (h : er ≠ 0) : sItems item most n s p er = ([], p, er) := by unfold sItems; rw [if_pos h]
theorem qo {X : Type} (item : Stp X) (most : Nat) (n : Int) (s : List UInt8) (p : Int) (h : inn n 0 (most : Int) = false) : sItems item most n s p 0 = ([], p, 6) := by
 have h' : ¬ (0 <= n /\ n <= (most : Int)) := fun e => by rw [zq.2 e] at h; cases h
 unfold sItems;rw [if_neg (by simp), if_pos (by omega)]
theorem qI {X : Type} (item : Stp X) (most : Nat) (n : Nat) (s : List UInt8) (p : Int) (h : inn (n : Int) 0 (most : Int) = true) : sItems item most n s p 0 = sGo item n [] s p 0 := by
 have h' := zq.1 h;unfold sItems;rw [if_neg (by simp), if_neg (by omega), Int.toNat_natCast]
theorem jl {X : Type} (item : Stp X) (n : Nat) (acc : List X) (s : List UInt8) (p er : Int) {x : X} {q e : Int} (h : item s p er = (x, q, e)) : sGo item (n + 1) acc s p er = sGo item n (acc ++ [x]) s q e := by
 show sThen item _ s p er = _
 unfold sThen;rw [h]
def idxG {X : Type} (p : X -> Bool) : List X -> Nat -> Int
 | [], _ => -1
 | x :: l, k => if p x then (k : Int) else idxG p l (k + 1)
theorem qd {X : Type} {p : X -> Bool} {l : List X} {K : Nat} {x : X} (h : l[K]? = some x) : idxG p (l.drop K) K = if p x then (K : Int) else idxG p (l.drop (K + 1)) (K + 1) := by
 obtain ⟨hlt, rfl⟩ := List.getElem?_eq_some_iff.1 h;rw [List.drop_eq_getElem_cons hlt, idxG]
theorem yZ {X : Type} (p : X -> Bool) : ∀ (l : List X) (k : Nat), decide (0 <= idxG p l k) = l.any p
 | [], _ => by simp [idxG]
 | x :: l, k => by
  unfold idxG;rw [List.any_cons];cases p x with
  | true => simp
  | false => simp only [Bool.false_eq_true, if_false, Bool.false_or]; exact yZ p l (k + 1)
def vdOk (x : Vd) : Bool := inn x.seq 1 1099511627776 && inn x.code 0 63
def itOk (x : It) : Bool := streamP x.stream && stP x.st
def riseL {X : Type} (less : X -> X -> Bool) : List X -> Bool
 | x :: y :: r => less x y && riseL less (y :: r)
 | _ => true
def riseK {X : Type} (less : X -> X -> Bool) (l : List X) (r : List X) : Nat -> Bool
 | 0 => riseL less r
 | k + 1 => match l[k]? with | some y => riseL less (y :: r) | none => true
theorem jA {X : Type} (less : X -> X -> Bool) (l : List X) : ∀ k, riseK less l [] k = true
 | 0 => rfl
 | k + 1 => by
  show (match l[k]? with | some y => riseL less [y] | none => true) = true
  cases l[k]? <;> rfl
theorem yA {X : Type} (less : X -> X -> Bool) (l r : List X) (k : Nat) {y : X} (h : l[k]? = some y) : riseK less l r (k + 1) = riseL less (y :: r) := by
 show (match l[k]? with | some y => riseL less (y :: r) | none => true) = _
 rw [h]
theorem ZB (l : List It) : ∀ (r : List It) (k : Nat), l.drop k = r -> itemsGo l k r = (r.all itOk && riseK (fun a b => lessL a.stream b.stream) l r k)
 | [], k, h => by
  cases k with
  | zero => rfl
  | succ k =>
   rw [jA, Bool.and_true];rfl
 | x :: r, k, h => by
  have hlt : k < l.length := by
   by_cases hk : k < l.length
   ·exact hk
   ·rw [List.drop_of_length_le (by omega)] at h; cases h
  rw [List.drop_eq_getElem_cons hlt] at h;obtain ⟨h1, h2⟩ := List.cons.inj h;have hx : l[k]? = some x := by rw [List.getElem?_eq_getElem hlt, h1]
  have ih := ZB l r (k + 1) h2;unfold itemsGo;rw [ih];rw [yA _ _ _ _ hx, List.all_cons];cases k with
  | zero =>
   unfold itP itOk;simp only [decide_true, Bool.true_or, Bool.and_true];rw [show riseK (fun a b => lessL a.stream b.stream) l (x :: r) 0 = riseL (fun a b => lessL a.stream b.stream) (x :: r) from rfl];simp only [Bool.and_assoc]
  | succ k =>
   obtain ⟨y, hy⟩ : ∃ y, l[k]? = some y := ⟨_, List.getElem?_eq_getElem (by omega)⟩;unfold itP itOk;rw [yA _ _ _ _ hy, show k + 1 - 1 = k from rfl, hy];simp only [show decide (k + 1 = 0) = false from rfl, Bool.false_or];rw [show riseL (fun a b => lessL a.stream b.stream) (y :: x :: r) = (lessL y.stream x.stream && riseL (fun a b => lessL a.stream b.stream) (x :: r)) from rfl];generalize streamP x.stream = b1
   generalize stP x.st = b2
   generalize lessL y.stream x.stream = b3
   generalize r.all _ = b4
   generalize riseL _ _ = b5
   cases b1 <;> cases b2 <;> cases b3 <;> cases b4 <;> cases b5 <;> rfl
theorem vds_rise (l : List Vd) : ∀ (r : List Vd) (k : Nat), l.drop k = r -> vdsGo l k r = (r.all vdOk && riseK (fun a b => decide (a.seq < b.seq)) l r k)
 | [], k, h => by
  cases k with
  | zero => rfl
  | succ k =>
   rw [jA, Bool.and_true];rfl
 | x :: r, k, h => by
  have hlt : k < l.length := by
   by_cases hk : k < l.length
   ·exact hk
   ·rw [List.drop_of_length_le (by omega)] at h; cases h
  rw [List.drop_eq_getElem_cons hlt] at h;obtain ⟨h1, h2⟩ := List.cons.inj h;have hx : l[k]? = some x := by rw [List.getElem?_eq_getElem hlt, h1]
  have ih := vds_rise l r (k + 1) h2;unfold vdsGo;rw [ih];rw [yA _ _ _ _ hx, List.all_cons];cases k with
  | zero =>
   unfold vdP vdOk;simp only [decide_true, Bool.true_or, Bool.and_true];rw [show riseK (fun a b => decide (a.seq < b.seq)) l (x :: r) 0 = riseL (fun a b => decide (a.seq < b.seq)) (x :: r) from rfl];simp only [Bool.and_assoc]
  | succ k =>
   obtain ⟨y, hy⟩ : ∃ y, l[k]? = some y := ⟨_, List.getElem?_eq_getElem (by omega)⟩;unfold vdP vdOk;rw [yA _ _ _ _ hy, show k + 1 - 1 = k from rfl, hy];simp only [show decide (k + 1 = 0) = false from rfl, Bool.false_or];rw [show riseL (fun a b => decide (a.seq < b.seq)) (y :: x :: r) = (decide (y.seq < x.seq) && riseL (fun a b => decide (a.seq < b.seq)) (x :: r)) from rfl];generalize inn x.seq _ _ = b1
   generalize inn x.code _ _ = b2
   generalize decide (y.seq < x.seq) = b3
   generalize r.all _ = b4
   generalize riseL _ _ = b5
   cases b1 <;> cases b2 <;> cases b3 <;> cases b4 <;> cases b5 <;> rfl
theorem jG (l : List It) : itemsP l = ((l.all itOk && decide (l.length <= 64)) && riseL (fun a b => lessL a.stream b.stream) l) := by
 unfold itemsP;rw [ZB l l 0 rfl];show ((l.all itOk && riseL _ l) && _) = _
 generalize l.all itOk = b1
 generalize riseL _ _ = b2
 generalize decide (l.length <= 64) = b3
 cases b1 <;> cases b2 <;> cases b3 <;> rfl
theorem vds_all (l : List Vd) : vdsP l = ((l.all vdOk && decide (l.length <= 32)) && riseL (fun a b => decide (a.seq < b.seq)) l) := by
 unfold vdsP;rw [vds_rise l l 0 rfl];show ((l.all vdOk && riseL _ l) && _) = _
 generalize l.all vdOk = b1
 generalize riseL _ _ = b2
 generalize decide (l.length <= 32) = b3
 cases b1 <;> cases b2 <;> cases b3 <;> rfl
theorem jB {X : Type} {less : X -> X -> Bool} {l : List X} {K : Nat} {x y : X} (hy : l[K]? = some y) (hx : l[K + 1]? = some x) : riseL less (l.drop K) = (less y x && riseL less (l.drop (K + 1))) := by
 obtain ⟨h1, rfl⟩ := List.getElem?_eq_some_iff.1 hy;obtain ⟨h2, rfl⟩ := List.getElem?_eq_some_iff.1 hx;rw [List.drop_eq_getElem_cons h1, List.drop_eq_getElem_cons h2, riseL]
theorem ui {X : Type} {less : X -> X -> Bool} {l : List X} {K : Nat} (h : l.length <= K + 1) : riseL less (l.drop K) = true := by
 rcases hd : l.drop K with _ | ⟨x, _ | ⟨y, r⟩⟩
 ·rfl
 ·rfl
 ·have := congrArg List.length hd
  rw [List.length_drop] at this;simp at this;omega
theorem uq : ∀ a b : List UInt8, Op.bytesLess a b = lessL a b
 | [], [] => rfl
 | [], _ :: _ => rfl
 | _ :: _, [] => rfl
 | x :: a, y :: b => by
  rw [Op.bytesLess, uq a b, lessL];by_cases h : x = y
  ·subst h
   rw [if_pos rfl];simp [UInt8.lt_irrefl]
  ·rw [if_neg h]
   have : (x == y) = false := beq_eq_false_iff_ne.2 h;rw [this];simp only [Bool.false_and, Bool.or_false];rfl
set_option maxHeartbeats 1000000 in
theorem mayLit_I (l : List Int) (HM : ∀ (W : World) (v : Value) (x : Int), x ∈ l -> (v = .int .i64 x) -> Calls Tryz.prog 208 #[v] W fun e w' => e = .returned (.bool (valP x)) /\ Below W.heap.size W w') (A : Nat) (v : Value) (x : Int) (W : World) (hx : x ∈ l) (hv : v = .int .i64 x) (hA : W.cell? ⟨A, 0, none⟩ = some (.func (.func 208) #[] #[])) :
 Calls Tryz.prog 229 #[v, .pointer (some ⟨A, 0, none⟩)] W fun e w' => e = .returned (.bool (!valP x)) /\ Below W.heap.size W w' := by
 subst hv;have HC := Lib.hid (HM W _ x hx rfl);obtain ⟨p, hp⟩ : ∃ p, valP x = p := ⟨_, rfl⟩;rw [hp] at HC ⊢;clear HM hp hx;go_enter Tryz.func229, Tryz.ntmps229;go_wp2_with (go_at_call 208; refine HC.out.mono ?_; rintro _ w1 ⟨rfl, hb1⟩; have HB1 := Lib.hid hb1; clear hb1)
 go_ret;exact ⟨rfl, HB1.out⟩
set_option maxHeartbeats 2000000 in
theorem idx_I (l : List Int) (HM : ∀ (W : World) (v : Value) (x : Int), x ∈ l -> (v = .int .i64 x) -> Calls Tryz.prog 208 #[v] W fun e w' => e = .returned (.bool (valP x)) /\ Below W.heap.size W w') (A : Nat) (v : Value) (w : World) (h : SlN w v l) (hn : l.length <= 4611686018427387904) (hA : w.cell? ⟨A, 0, none⟩ = some (.func (.func 208) #[] #[])) :
 Calls Tryz.prog 236 #[v, .func (.func 229) #[] #[.pointer (some ⟨A, 0, none⟩)]] w fun e w' => e = .returned (.int .i64 (idxG (fun x => !valP x) l 0)) /\ Below w.heap.size w w' := by
 obtain ⟨a, cap, rfl, hc⟩ := h.open;obtain ⟨N, hN⟩ : ∃ N, l.length = N := ⟨_, rfl⟩;have HC := Lib.hid hc;have HN := Lib.hid hN;have HP := Lib.hid (mayLit_I l HM A);rw [hN] at hn ⊢;clear hc h hN HM;go_enter Tryz.func236, Tryz.ntmps236;go_wp2_with fail;go_loopw [8] (fun i wr => ∃ K : Nat, i = .int .i64 (K : Int) /\ K <= N /\ Hid (idxG (fun x => !valP x) l 0 = idxG (fun x => !valP x) (l.drop K) K /\ Below w.heap.size w wr)) (fun i _ => N - (intOf i).toNat)
 case atStart => exact ⟨0, rfl, Nat.zero_le _, Lib.hid ⟨rfl, Below.refl _ _⟩⟩
 case round =>
  obtain ⟨K, rfl, hK, HJ⟩ := hrel;by_cases hlt : K < N
  ·have hltI : (K : Int) < (N : Int) := by omega
   have hk0 : 0 <= (K : Int) := by omega
   have hw1 : IntKind.i64.wrap ((K : Int) + 1) = (K : Int) + 1 := IntWalk.i64_in _ (by omega);obtain ⟨x, hx⟩ : ∃ x, l[K]? = some x := ⟨_, List.getElem?_eq_getElem (by rw [HN.out]; exact hlt)⟩;obtain ⟨b, off, rfl, hcell⟩ := HC.out K x hx;have k0 : wr.cell? ⟨b, off + K, none⟩ = some (.int .i64 x) := za HJ.out.2 hcell;clear hcell;have hd := HJ.out.1.trans (qd (p := fun x => !valP x) hx);have HV := Lib.hid (HP.out (.int .i64 x) x wr (List.mem_of_getElem? hx) rfl (za HJ.out.2 hA));obtain ⟨c, hcv⟩ : ∃ c, (!valP x) = c := ⟨_, rfl⟩;rw [hcv] at HV hd;have HD := Lib.hid hd;clear hd hx hcv;cases c with
   | true =>
    go_wp2_with (go_at_call 229; refine HV.out.mono ?_; rintro _ w1 ⟨rfl, hb1⟩; have HB1 := Lib.hid hb1; clear hb1)
    go_ret;exact ⟨by rw [HD.out]; rfl, HJ.out.2.trans (HB1.out.mono HJ.out.2.size)⟩
   | false =>
    go_wp2_with (go_at_call 229; refine HV.out.mono ?_; rintro _ w1 ⟨rfl, hb1⟩; have HB1 := Lib.hid hb1; clear hb1)
    go_roundw
    case rel => exact ⟨K + 1, by go_num, by omega, Lib.hid ⟨by rw [HD.out]; rfl, HJ.out.2.trans (HB1.out.mono HJ.out.2.size)⟩⟩
    case measure => simp [intOf]; omega
  ·have hltI : ¬ (K : Int) < (N : Int) := by omega
   have hd := HJ.out.1;rw [List.drop_of_length_le (i := K) (by rw [HN.out]; omega)] at hd;have HD := Lib.hid hd;clear hd;go_wp2_with fail;go_ret;exact ⟨by rw [HD.out]; rfl, HJ.out.2⟩
set_option maxHeartbeats 1000000 in
theorem has_I (l : List Int) (HM : ∀ (W : World) (v : Value) (x : Int), x ∈ l -> (v = .int .i64 x) -> Calls Tryz.prog 208 #[v] W fun e w' => e = .returned (.bool (valP x)) /\ Below W.heap.size W w') (A : Nat) (v : Value) (w : World) (h : SlN w v l) (hn : l.length <= 4611686018427387904) (hA : w.cell? ⟨A, 0, none⟩ = some (.func (.func 208) #[] #[])) :
 Calls Tryz.prog 228 #[v, .func (.func 229) #[] #[.pointer (some ⟨A, 0, none⟩)]] w fun e w' => e = .returned (.bool (l.any fun x => !valP x)) /\ Below w.heap.size w w' := by
 have HI := idx_I l HM A v w h hn hA;have ha := yZ (fun x => !valP x) l 0;obtain ⟨i, hi⟩ : ∃ i, idxG (fun x => !valP x) l 0 = i := ⟨_, rfl⟩;rw [hi] at HI ha;rw [<- ha];clear ha hi HM;obtain ⟨a, cap, rfl, -⟩ := h.open;go_enter Tryz.func228, Tryz.ntmps228;go_wp2_with fail;refine HI.mono ?_;rintro _ w1 ⟨rfl, hb⟩;go_wp2_with fail;go_ret;exact ⟨rfl, hb⟩
set_option maxHeartbeats 1000000 in
theorem mayList_I (l : List Int) (HM : ∀ (W : World) (v : Value) (x : Int), x ∈ l -> (v = .int .i64 x) -> Calls Tryz.prog 208 #[v] W fun e w' => e = .returned (.bool (valP x)) /\ Below W.heap.size W w') (most : Nat) (m : Int) (em : m = (most : Int)) (v : Value) (w : World) (h : SlN w v l) (hn : l.length <= 4611686018427387904) :
 Calls Tryz.prog 207 #[v, .int .i64 m, .func (.func 208) #[] #[]] w fun e w' => e = .returned (.bool (l.all valP && decide (l.length <= most))) /\ Below w.heap.size w w' := by
 have hmf : ∀ (fn : Fn) (first cap : Array Value) (w : World), (Instr.makeFunc fn first cap).run Tryz.prog w = .ok (.func fn first cap) w := fun _ _ _ _ => rfl
 subst em;obtain ⟨W0, hW0⟩ : ∃ W0, w.alloc (.cells #[.func (.func 208) #[] #[]] 156) = W0 := ⟨_, rfl⟩;have hB0 : Below w.heap.size w W0 := by rw [<- hW0]; exact zf _ _
 have kA : W0.cell? ⟨w.heap.size, 0, none⟩ = some (.func (.func 208) #[] #[]) := by rw [<- hW0]; exact ze w [_] _ 0 _ rfl
 have HI := Lib.hid (has_I l HM w.heap.size v W0 (h.below hB0) hn kA);have hall : (l.all valP && decide (l.length <= most)) = (decide (l.length <= most) && !(l.any fun x => !valP x)) := by
  rw [Bool.and_comm];congr 1
  rw [List.not_any_eq_all_not];simp
 rw [hall];obtain ⟨a, cap, rfl, -⟩ := id h.open;obtain ⟨N, hN⟩ : ∃ N, l.length = N := ⟨_, rfl⟩;obtain ⟨c, hcv⟩ : ∃ c, (l.any fun x => !valP x) = c := ⟨_, rfl⟩;rw [hcv] at HI;rw [hN] at HI hn ⊢;rw [hcv];have HB0 := Lib.hid hB0;clear hcv hN HM h hall hB0 kA;by_cases hlt : N <= most
 ·have hltI : (N : Int) <= (most : Int) := by omega
  have d1 : decide ((N : Int) <= (most : Int)) = true := decide_eq_true hltI;rw [decide_eq_true hlt];go_enter Tryz.func207, Tryz.ntmps207;go_wp2_with fail;refine HI.out.mono ?_;rintro _ w1 ⟨rfl, hb1⟩;have HB1 := Lib.hid hb1;clear hb1;go_wp2_with fail;go_ret;exact ⟨by cases c <;> rfl, HB0.out.trans (HB1.out.mono HB0.out.size)⟩
 ·have hltI : ¬ (N : Int) <= (most : Int) := by omega
  have d1 : decide ((N : Int) <= (most : Int)) = false := decide_eq_false hltI;rw [decide_eq_false hlt];go_enter Tryz.func207, Tryz.ntmps207;go_wp2_with fail;go_ret;exact ⟨rfl, HB0.out⟩
set_option maxHeartbeats 1000000 in
theorem mayLit_V (l : List Vd) (HM : ∀ (W : World) (v : Value) (x : Vd), x ∈ l -> (v = .agg #[.int .i64 x.seq, .int .i64 x.code]) -> Calls Tryz.prog 183 #[v] W fun e w' => e = .returned (.bool (vdOk x)) /\ Below W.heap.size W w') (A : Nat) (v : Value) (x : Vd) (W : World) (hx : x ∈ l) (hv : v = .agg #[.int .i64 x.seq, .int .i64 x.code]) (hA : W.cell? ⟨A, 0, none⟩ = some (.func (.func 183) #[] #[])) :
 Calls Tryz.prog 220 #[v, .pointer (some ⟨A, 0, none⟩)] W fun e w' => e = .returned (.bool (!vdOk x)) /\ Below W.heap.size W w' := by
 subst hv;obtain ⟨W0, hW0⟩ : ∃ W0, W.alloc (.cells #[.int .i64 x.seq, .int .i64 x.code] 82) = W0 := ⟨_, rfl⟩;have hB0 : Below W.heap.size W W0 := by rw [<- hW0]; exact zf _ _
 have k0 : W0.cell? ⟨W.heap.size, 0, none⟩ = some (.int .i64 x.seq) := by rw [<- hW0]; exact ze W [_, _] _ 0 _ rfl
 have k1 : W0.cell? ⟨W.heap.size, 1, none⟩ = some (.int .i64 x.code) := by rw [<- hW0]; exact ze W [_, _] _ 1 _ rfl
 have kA := za hB0 hA;have HC := Lib.hid (HM W0 _ x hx rfl);obtain ⟨p, hp⟩ : ∃ p, vdOk x = p := ⟨_, rfl⟩;rw [hp] at HC ⊢;have HB0 := Lib.hid hB0;clear HM hp hx hA hB0;go_enter Tryz.func220, Tryz.ntmps220;go_wp2_with (go_at_call 183; refine HC.out.mono ?_; rintro _ w1 ⟨rfl, hb1⟩; have HB1 := Lib.hid hb1; clear hb1)
 go_ret;exact ⟨rfl, HB0.out.trans (HB1.out.mono HB0.out.size)⟩
set_option maxHeartbeats 2000000 in
theorem idx_V (l : List Vd) (HM : ∀ (W : World) (v : Value) (x : Vd), x ∈ l -> (v = .agg #[.int .i64 x.seq, .int .i64 x.code]) -> Calls Tryz.prog 183 #[v] W fun e w' => e = .returned (.bool (vdOk x)) /\ Below W.heap.size W w') (A : Nat) (v : Value) (w : World) (h : VdsIs w v l) (hn : l.length <= 4611686018427387904) (hA : w.cell? ⟨A, 0, none⟩ = some (.func (.func 183) #[] #[])) :
 Calls Tryz.prog 235 #[v, .func (.func 220) #[] #[.pointer (some ⟨A, 0, none⟩)]] w fun e w' => e = .returned (.int .i64 (idxG (fun x => !vdOk x) l 0)) /\ Below w.heap.size w w' := by
 obtain ⟨a, cap, rfl, hc⟩ := h.open;obtain ⟨N, hN⟩ : ∃ N, l.length = N := ⟨_, rfl⟩;have HC := Lib.hid hc;have HN := Lib.hid hN;have HP := Lib.hid (mayLit_V l HM A);rw [hN] at hn ⊢;clear hc h hN HM;go_enter Tryz.func235, Tryz.ntmps235;go_wp2_with fail;go_loopw [8] (fun i wr => ∃ K : Nat, i = .int .i64 (K : Int) /\ K <= N /\ Hid (idxG (fun x => !vdOk x) l 0 = idxG (fun x => !vdOk x) (l.drop K) K /\ Below w.heap.size w wr)) (fun i _ => N - (intOf i).toNat)
 case atStart => exact ⟨0, rfl, Nat.zero_le _, Lib.hid ⟨rfl, Below.refl _ _⟩⟩
 case round =>
  obtain ⟨K, rfl, hK, HJ⟩ := hrel;by_cases hlt : K < N
  ·have hltI : (K : Int) < (N : Int) := by omega
   have hk0 : 0 <= (K : Int) := by omega
   have hw1 : IntKind.i64.wrap ((K : Int) + 1) = (K : Int) + 1 := IntWalk.i64_in _ (by omega);obtain ⟨x, hx⟩ : ∃ x, l[K]? = some x := ⟨_, List.getElem?_eq_getElem (by rw [HN.out]; exact hlt)⟩;obtain ⟨b, off, ea, cs, -, rfl, hcell⟩ := HC.out K x hx;subst ea;have k0 : wr.cell? ⟨b, off + K * 2, none⟩ = some (.int .i64 x.seq) := za HJ.out.2 (hcell 0 _ rfl);have k1 : wr.cell? ⟨b, off + K * 2 + 1, none⟩ = some (.int .i64 x.code) := za HJ.out.2 (hcell 1 _ rfl);clear hcell;have hd := HJ.out.1.trans (qd (p := fun x => !vdOk x) hx);have HV := Lib.hid (HP.out (.agg #[.int .i64 x.seq, .int .i64 x.code]) x wr (List.mem_of_getElem? hx) rfl (za HJ.out.2 hA));obtain ⟨c, hcv⟩ : ∃ c, (!vdOk x) = c := ⟨_, rfl⟩;rw [hcv] at HV hd;have HD := Lib.hid hd;clear hd hx hcv;cases c with
   | true =>
    go_wp2_with (go_at_call 220; refine HV.out.mono ?_; rintro _ w1 ⟨rfl, hb1⟩; have HB1 := Lib.hid hb1; clear hb1)
    go_ret;exact ⟨by rw [HD.out]; rfl, HJ.out.2.trans (HB1.out.mono HJ.out.2.size)⟩
   | false =>
    go_wp2_with (go_at_call 220; refine HV.out.mono ?_; rintro _ w1 ⟨rfl, hb1⟩; have HB1 := Lib.hid hb1; clear hb1)
    go_roundw
    case rel => exact ⟨K + 1, by go_num, by omega, Lib.hid ⟨by rw [HD.out]; rfl, HJ.out.2.trans (HB1.out.mono HJ.out.2.size)⟩⟩
    case measure => simp [intOf]; omega
  ·have hltI : ¬ (K : Int) < (N : Int) := by omega
   have hd := HJ.out.1;rw [List.drop_of_length_le (i := K) (by rw [HN.out]; omega)] at hd;have HD := Lib.hid hd;clear hd;go_wp2_with fail;go_ret;exact ⟨by rw [HD.out]; rfl, HJ.out.2⟩
set_option maxHeartbeats 1000000 in
theorem has_V (l : List Vd) (HM : ∀ (W : World) (v : Value) (x : Vd), x ∈ l -> (v = .agg #[.int .i64 x.seq, .int .i64 x.code]) -> Calls Tryz.prog 183 #[v] W fun e w' => e = .returned (.bool (vdOk x)) /\ Below W.heap.size W w') (A : Nat) (v : Value) (w : World) (h : VdsIs w v l) (hn : l.length <= 4611686018427387904) (hA : w.cell? ⟨A, 0, none⟩ = some (.func (.func 183) #[] #[])) :
 Calls Tryz.prog 219 #[v, .func (.func 220) #[] #[.pointer (some ⟨A, 0, none⟩)]] w fun e w' => e = .returned (.bool (l.any fun x => !vdOk x)) /\ Below w.heap.size w w' := by
 have HI := idx_V l HM A v w h hn hA;have ha := yZ (fun x => !vdOk x) l 0;obtain ⟨i, hi⟩ : ∃ i, idxG (fun x => !vdOk x) l 0 = i := ⟨_, rfl⟩;rw [hi] at HI ha;rw [<- ha];clear ha hi HM;obtain ⟨a, cap, rfl, -⟩ := h.open;go_enter Tryz.func219, Tryz.ntmps219;go_wp2_with fail;refine HI.mono ?_;rintro _ w1 ⟨rfl, hb⟩;go_wp2_with fail;go_ret;exact ⟨rfl, hb⟩
set_option maxHeartbeats 1000000 in
theorem mayList_V (l : List Vd) (HM : ∀ (W : World) (v : Value) (x : Vd), x ∈ l -> (v = .agg #[.int .i64 x.seq, .int .i64 x.code]) -> Calls Tryz.prog 183 #[v] W fun e w' => e = .returned (.bool (vdOk x)) /\ Below W.heap.size W w') (most : Nat) (m : Int) (em : m = (most : Int)) (v : Value) (w : World) (h : VdsIs w v l) (hn : l.length <= 4611686018427387904) :
 Calls Tryz.prog 184 #[v, .int .i64 m, .func (.func 183) #[] #[]] w fun e w' => e = .returned (.bool (l.all vdOk && decide (l.length <= most))) /\ Below w.heap.size w w' := by
 have hmf : ∀ (fn : Fn) (first cap : Array Value) (w : World), (Instr.makeFunc fn first cap).run Tryz.prog w = .ok (.func fn first cap) w := fun _ _ _ _ => rfl
 subst em;obtain ⟨W0, hW0⟩ : ∃ W0, w.alloc (.cells #[.func (.func 183) #[] #[]] 195) = W0 := ⟨_, rfl⟩;have hB0 : Below w.heap.size w W0 := by rw [<- hW0]; exact zf _ _
 have kA : W0.cell? ⟨w.heap.size, 0, none⟩ = some (.func (.func 183) #[] #[]) := by rw [<- hW0]; exact ze w [_] _ 0 _ rfl
 have HI := Lib.hid (has_V l HM w.heap.size v W0 (h.below hB0) hn kA);have hall : (l.all vdOk && decide (l.length <= most)) = (decide (l.length <= most) && !(l.any fun x => !vdOk x)) := by
  rw [Bool.and_comm];congr 1
  rw [List.not_any_eq_all_not];simp
 rw [hall];obtain ⟨a, cap, rfl, -⟩ := id h.open;obtain ⟨N, hN⟩ : ∃ N, l.length = N := ⟨_, rfl⟩;obtain ⟨c, hcv⟩ : ∃ c, (l.any fun x => !vdOk x) = c := ⟨_, rfl⟩;rw [hcv] at HI;rw [hN] at HI hn ⊢;rw [hcv];have HB0 := Lib.hid hB0;clear hcv hN HM h hall hB0 kA;by_cases hlt : N <= most
 ·have hltI : (N : Int) <= (most : Int) := by omega
  have d1 : decide ((N : Int) <= (most : Int)) = true := decide_eq_true hltI;rw [decide_eq_true hlt];go_enter Tryz.func184, Tryz.ntmps184;go_wp2_with fail;refine HI.out.mono ?_;rintro _ w1 ⟨rfl, hb1⟩;have HB1 := Lib.hid hb1;clear hb1;go_wp2_with fail;go_ret;exact ⟨by cases c <;> rfl, HB0.out.trans (HB1.out.mono HB0.out.size)⟩
 ·have hltI : ¬ (N : Int) <= (most : Int) := by omega
  have d1 : decide ((N : Int) <= (most : Int)) = false := decide_eq_false hltI;rw [decide_eq_false hlt];go_enter Tryz.func184, Tryz.ntmps184;go_wp2_with fail;go_ret;exact ⟨rfl, HB0.out⟩
end Go.Proofs.YtaidhoepnefcpaaGreat.C10
