/-
  Layer 11: what was handed over (commands, entries, frames), as it reads; none longer than memory is.
-/
import Derived.ProofKit
import Derived.SliceStrings
import Derived.Deep.Fields
import Derived.Lib.SmallJoins
import Derived.SizedLaws
import Derived.OpenShut
import Derived.Test.YtaidhoepnefcpaaGreatBP11Read
namespace Go.Proofs.YtaidhoepnefcpaaGreat.K
open Go Go.RowKit Go.ChangeShapes Go.WideShapes Go.ChangeAt
section
variable {H : Type} {enc : TypeId × Value -> H} {P : Program} {W : World}
theorem Sl.args {v : Value} {a : Addr} {len cap : Nat} {all : List Value} (hlen : len <= all.length) (hv : v = .slice (some a) len cap) (hc : ∀ i u, all[i]? = some u -> W.cell? (a.add i) = some u) : Sl W v (all.take len) := by
 subst hv;have hl : (all.take len).length = len := by simp; omega
 refine ⟨some a, cap, by rw [hl], fun j u hj => ?_⟩;have hj' : j < len := by
  have := (List.getElem?_eq_some_iff.1 hj).1;omega
 rw [List.getElem?_take_of_lt hj'] at hj;have h0 := hc j u hj;have h1 : a.spot = none := by
  have hz : all[0]? = some all[0] := List.getElem?_eq_getElem (by omega);simpa [Addr.add] using World.cell?_spot (hc 0 _ hz)
 obtain ⟨b, off, spot⟩ := a;subst h1;exact ⟨b, off, rfl, by rw [<- add_plain]; exact h0⟩
theorem ints_field {t e : TypeId} (ht : P.underlying t = some (.slice e)) (he : P.underlying e = some (.int .i64)) (hc : P.cellsOf e = 1) {fuel : Nat} {v : Value} {y : DataW H × List MemPlace}
 (hf : DataW.trod enc P W 0 (fun _ => true) true fuel t [v] = some y) :
 ∃ xs : List Int, Sl W v (xs.map (Value.int .i64)) /\ (∀ x ∈ xs, -9223372036854775808 <= x /\ x <= 9223372036854775807) /\ xs.length <= maxLen := by
 rcases open_ints ht he hc hf with ⟨hcs, _⟩ | ⟨a, len, cap, zs, hcs, _, hl, hm, hz, _, hcell, hwz⟩
 ·simp at hcs
  subst hcs;exact ⟨[], Sl.nil W, by simp, by simp⟩
 ·simp at hcs
  subst hcs;simp only [if_true] at hz;refine ⟨zs.take len, ?_, fun x hx => ?_, by rw [List.length_take]; omega⟩
  ·rw [List.map_take]
   refine Sl.args (by rw [List.length_map]; omega) rfl (fun i u hi => ?_);rw [List.getElem?_map] at hi;cases hzi : zs[i]? with
   | none => rw [hzi] at hi; cases hi
   | some z =>
    rw [hzi] at hi;obtain ⟨hil, hze⟩ := List.getElem?_eq_some_iff.1 hzi;have := hcell i hil;rw [this, <- hi];simp [List.getD, hzi]
  ·have := hwz x (List.mem_of_mem_take hx)
   simpa [Lit.wf, IntKind.min, IntKind.max, IntKind.signed, IntKind.bits] using this
end
set_option linter.unusedVariables false
section
variable {H : Type} {enc : TypeId × Value -> H} {P : Program} {W : World}
end
end Go.Proofs.YtaidhoepnefcpaaGreat.K
namespace Go.Proofs.YtaidhoepnefcpaaGreat.C10
open Go Go.RowKit Go.ChangeShapes Go.WideShapes Go.ChangeAt Go.Proofs B K P8
set_option linter.unusedVariables false
set_option maxRecDepth 100000
section
variable {H : Type} {enc : TypeId × Value -> H} {W : World}
theorem Zv : reachBytes = 140737488351232 := by decide
def Fits {P : Program} (t : TypeId) (d : DataW H) : Prop := ∀ m ∈ DataW.weights P t d, m <= reachBytes
theorem yl {n : Nat} {c : Value} {z : DataW H × List MemPlace} (h : DataW.trod enc Tryz.prog W 0 (fun _ => true) true n 3 [c] = some z) : ∃ x, c = .int .i64 x /\ I64 x := by
 obtain ⟨x, g, _, wx⟩ := DataW.trod_int Tryz.underlying3 h;simp only [List.cons.injEq, and_true] at g;refine ⟨x, g, ?_⟩;have := wx;simp [Lit.wf, IntKind.min, IntKind.max, IntKind.signed, IntKind.bits] at this;exact this
theorem ZQ {n : Nat} {c : Value} {z : DataW H × List MemPlace} (h : DataW.trod enc Tryz.prog W 0 (fun _ => true) true n 9 [c] = some z) (hb : Fits (P := Tryz.prog) 9 z.1) : ∃ s, c = .string (str s) /\ TxWf s := by
 obtain ⟨s, g, hz, ws⟩ := DataW.trod_string Tryz.underlying9 h;simp only [List.cons.injEq, and_true] at g;have hm := hb s.data.toList.length (by rw [hz]; unfold DataW.weights; simp);rw [Zv] at hm;exact ⟨s.data.toList, by rw [g, str_eq], by unfold TxWf; omega⟩
theorem ZU {n : Nat} {c : Value} {z : DataW H × List MemPlace} (h : DataW.trod enc Tryz.prog W 0 (fun _ => true) true n 57 [c] = some z) (hb : Fits (P := Tryz.prog) 57 z.1) : ∃ l, SlN W c l /\ NsWf l := by
 obtain ⟨l, hs, hw, hl⟩ := ints_field Tryz.underlying57 Tryz.underlying3 (by kernel_rfl) h;have hb8 : Tryz.prog.bytesOf 3 = 8 := by kernel_rfl
 refine ⟨l, hs, hw, ?_⟩;obtain ⟨a, cap, rfl, _⟩ := hs;rcases Go.Deep.open_slice Tryz.underlying57 h with ⟨hcs, _⟩ | ⟨a', len, cap', m, k, D, Pl, hcs, _, _, _, _, hx, _⟩
 ·simp only [List.cons.injEq, Value.slice.injEq, and_true, List.length_map] at hcs
  omega
 ·simp only [List.cons.injEq, Value.slice.injEq, and_true, List.length_map] at hcs
  have h1 := hb _ (by rw [hx]; unfold DataW.weights; rw [Tryz.underlying57]; exact List.mem_cons_self ..);rw [hb8, Zv] at h1;simp at h1;omega
theorem qp {P : Program} {e : TypeId} : ∀ {ds : List (DataW H)} {d : DataW H}, d ∈ ds -> ∀ n ∈ d.weights P e, n ∈ DataW.weightsAll P e ds
 | x :: ds, d, h, n, hn => by
  unfold DataW.weightsAll;rcases List.mem_cons.1 h with rfl | h
  ·exact List.mem_append_left _ hn
  ·exact List.mem_append_right _ (qp h n hn)
theorem add_plain (b o i : Nat) : (⟨b, o, none⟩ : Addr).add i = ⟨b, o + i, none⟩ := by rw [Lib.addr_add]
instance : Inhabited Ev := ⟨⟨0, []⟩⟩
instance : Inhabited It := ⟨⟨[], ⟨0, 0, []⟩⟩⟩
instance : Inhabited Vd := ⟨⟨0, 0⟩⟩
theorem ja {X : Type} [Inhabited X] {P : Program} {t e : TypeId} {k : Nat} {Q : List Value -> X -> Prop} {R : X -> Prop} (hu : P.underlying t = some (.slice e)) (hc : P.cellsOf e = k) (hk : 0 < k) (hby : 8 <= P.bytesOf e)
 (el : ∀ n cs z, DataW.trod enc P W 0 (fun _ => true) true n e cs = some z -> Fits (P := P) e z.1 -> ∃ x, Q cs x /\ R x) {n : Nat} {c : Value} {z : DataW H × List MemPlace} (h : DataW.trod enc P W 0 (fun _ => true) true n t [c] = some z) (hb : Fits (P := P) t z.1) :
 ∃ l : List X, SlOf W k Q c l /\ (∀ x ∈ l, R x) /\ l.length <= 17592186044416 := by
 rcases Go.Deep.open_slice hu h with ⟨hcs, _⟩ | ⟨a, len, cap, m, n, D, Pl, hcs, _, hl, hm, hmm, hz, hx⟩
 ·simp at hcs
  subst hcs;exact ⟨[], SlOf.nil W k _, by simp, by simp⟩
 ·simp at hcs
  subst hcs;rw [hc] at hx;have hm' : m = cap := by simpa using hmm
  have hlen : len <= 17592186044416 := by
   have h1 := hb _ (by rw [hz]; unfold DataW.weights; rw [hu]; exact List.mem_cons_self ..);rw [Zv] at h1;simp only [List.length_map, List.length_range] at h1;have h2 := Nat.mul_le_mul_left (len + (m - len)) hby
   omega
  have hD : ∀ i, i < m -> Fits (P := P) e (D i) := by
   intro i hi k hk;refine hb k ?_;rw [hz];unfold DataW.weights;rw [hu];simp only [List.mem_cons, List.mem_append];right
   by_cases hil : i < len
   ·exact Or.inl (qp (List.mem_map.2 ⟨i, List.mem_range.2 hil, rfl⟩) k hk)
   ·exact Or.inr (qp (List.mem_map.2 ⟨i - len, List.mem_range.2 (by omega), by rw [show len + (i - len) = i by omega]⟩) k hk)
  obtain ⟨F, hF⟩ := Go.Deep.choose_lt (α := X × List Value) (n := m) (p := fun i x => x.2.length = k /\ Q x.2 x.1 /\ R x.1 /\ ∀ j c, x.2[j]? = some c -> W.cell? ((a.add (i * k)).add j) = some c) (fun i hi => by
   obtain ⟨cs', h1, h2⟩ := hx i hi;obtain ⟨_, hlen, hcell⟩ := World.cells?_some h1;obtain ⟨x, q, r⟩ := el _ _ _ h2 (hD i hi);refine ⟨(x, cs'), hlen, q, r, fun j c hj => ?_⟩;have hjl := (List.getElem?_eq_some_iff.1 hj).1;rw [hcell j (by simpa using hlen ▸ hjl)];exact hj)
  refine ⟨(List.range len).map fun i => (F i).1, ⟨some a, cap, by simp, fun j i hj => ?_⟩, fun x hxm => ?_, by simpa using hlen⟩
  ·have hjl : j < len := by
    have := (List.getElem?_eq_some_iff.1 hj).1;simpa using this
   rw [List.getElem?_map, List.getElem?_range hjl] at hj;have hj' : (F j).1 = i := by simpa using hj
   obtain ⟨c0, c1, c2, c3⟩ := hF j (by omega);rw [hj'] at c1;obtain ⟨b, off, spot⟩ := a;have hs : spot = none := by
    obtain ⟨z0, _, _, z3⟩ := hF 0 (by omega);have hk0 : 0 < (F 0).2.length := by omega
    have := World.cell?_spot (z3 0 _ (List.getElem?_eq_getElem hk0));simpa [Addr.add] using this
   subst hs;refine ⟨b, off, rfl, (F j).2, c0, c1, fun i c hi => ?_⟩;have := c3 i c hi;rw [add_plain, add_plain] at this;exact this
  ·obtain ⟨j, hj, rfl⟩ := List.mem_map.1 hxm
   exact (hF j (by have := List.mem_range.1 hj; omega)).2.2.1
theorem ev_el {n : Nat} {cs : List Value} {z : DataW H × List MemPlace} (h : DataW.trod enc Tryz.prog W 0 (fun _ => true) true n 120 cs = some z) (hb : Fits (P := Tryz.prog) 120 z.1) : ∃ g, EvIs W cs g /\ EvWf g := by
 obtain ⟨xs, k, _, hx, hcl, hxl, hg⟩ := DataW.trod_struct Tryz.underlying120 h;have hcn : cs.length = 2 := hcl.trans (by kernel_rfl);obtain ⟨c0, c1, rfl⟩ : ∃ c0 c1, cs = [c0, c1] := by
  match cs, hcn with
  | [c0, c1], _ => exact ⟨c0, c1, rfl⟩
 obtain ⟨y0, y1, rfl⟩ : ∃ y0 y1, xs = [y0, y1] := by
  match xs, hxl with
  | [y0, y1], _ => exact ⟨y0, y1, rfl⟩
 subst hx;have hf : ∀ m ∈ DataW.weightsEach Tryz.prog [3, 57] [y0.1, y1.1], m <= reachBytes := fun m hm => hb m (by
  unfold DataW.weights;rw [Tryz.underlying120];exact hm)
 have t0 : DataW.trod enc Tryz.prog W 0 (fun _ => true) true k 3 [c0] = some y0 := hg 0 _ rfl;have b0 : Fits (P := Tryz.prog) 3 y0.1 := fun m hm => hf m (DataW.weights_mem_each (j := 0) (t := 3) rfl rfl m hm)
 have t1 : DataW.trod enc Tryz.prog W 0 (fun _ => true) true k 57 [c1] = some y1 := hg 1 _ rfl;have b1 : Fits (P := Tryz.prog) 57 y1.1 := fun m hm => hf m (DataW.weights_mem_each (j := 1) (t := 57) rfl rfl m hm)
 obtain ⟨x, rfl, hx0⟩ := yl t0;obtain ⟨l, h1, h2⟩ := ZU t1 b1;exact ⟨⟨x, l⟩, ⟨c1, rfl, h1⟩, hx0, h2⟩
theorem evs_el {n : Nat} {c : Value} {z : DataW H × List MemPlace} (h : DataW.trod enc Tryz.prog W 0 (fun _ => true) true n 51 [c] = some z) (hb : Fits (P := Tryz.prog) 51 z.1) : ∃ l, EvsIs W c l /\ EvsWf l := by
 obtain ⟨l, h1, h2, h3⟩ := ja (X := Ev) (k := 2) (Q := EvIs W) (R := EvWf) Tryz.underlying51 (by kernel_rfl) (by decide) (by rw [show Tryz.prog.bytesOf 120 = 32 by kernel_rfl]; decide) (fun n cs z h hb => ev_el h hb) h hb;exact ⟨l, h1, h2, h3⟩
theorem cm_el {n : Nat} {cs : List Value} {z : DataW H × List MemPlace} (h : DataW.trod enc Tryz.prog W 0 (fun _ => true) true n 59 cs = some z) (hb : Fits (P := Tryz.prog) 59 z.1) : ∃ (g : Cm) (u : Value), cs = [.int .i64 g.client, .int .i64 g.seq, .string (str g.stream), .int .i64 g.rule, u, .int .i64 g.expect] /\ SlN W u g.args /\ CmWf g := by
 obtain ⟨xs, k, _, hx, hcl, hxl, hg⟩ := DataW.trod_struct Tryz.underlying59 h;have hcn : cs.length = 6 := hcl.trans (by kernel_rfl);obtain ⟨c0, c1, c2, c3, c4, c5, rfl⟩ : ∃ c0 c1 c2 c3 c4 c5, cs = [c0, c1, c2, c3, c4, c5] := by
  match cs, hcn with
  | [c0, c1, c2, c3, c4, c5], _ => exact ⟨c0, c1, c2, c3, c4, c5, rfl⟩
 obtain ⟨y0, y1, y2, y3, y4, y5, rfl⟩ : ∃ y0 y1 y2 y3 y4 y5, xs = [y0, y1, y2, y3, y4, y5] := by
  match xs, hxl with
  | [y0, y1, y2, y3, y4, y5], _ => exact ⟨y0, y1, y2, y3, y4, y5, rfl⟩
 subst hx;have hf : ∀ m ∈ DataW.weightsEach Tryz.prog [3, 3, 9, 3, 57, 3] [y0.1, y1.1, y2.1, y3.1, y4.1, y5.1], m <= reachBytes := fun m hm => hb m (by
  unfold DataW.weights;rw [Tryz.underlying59];exact hm)
 have t0 : DataW.trod enc Tryz.prog W 0 (fun _ => true) true k 3 [c0] = some y0 := hg 0 _ rfl;have b0 : Fits (P := Tryz.prog) 3 y0.1 := fun m hm => hf m (DataW.weights_mem_each (j := 0) (t := 3) rfl rfl m hm)
 have t1 : DataW.trod enc Tryz.prog W 0 (fun _ => true) true k 3 [c1] = some y1 := hg 1 _ rfl;have b1 : Fits (P := Tryz.prog) 3 y1.1 := fun m hm => hf m (DataW.weights_mem_each (j := 1) (t := 3) rfl rfl m hm)
 have t2 : DataW.trod enc Tryz.prog W 0 (fun _ => true) true k 9 [c2] = some y2 := hg 2 _ rfl;have b2 : Fits (P := Tryz.prog) 9 y2.1 := fun m hm => hf m (DataW.weights_mem_each (j := 2) (t := 9) rfl rfl m hm)
 have t3 : DataW.trod enc Tryz.prog W 0 (fun _ => true) true k 3 [c3] = some y3 := hg 3 _ rfl;have b3 : Fits (P := Tryz.prog) 3 y3.1 := fun m hm => hf m (DataW.weights_mem_each (j := 3) (t := 3) rfl rfl m hm)
 have t4 : DataW.trod enc Tryz.prog W 0 (fun _ => true) true k 57 [c4] = some y4 := hg 4 _ rfl;have b4 : Fits (P := Tryz.prog) 57 y4.1 := fun m hm => hf m (DataW.weights_mem_each (j := 4) (t := 57) rfl rfl m hm)
 have t5 : DataW.trod enc Tryz.prog W 0 (fun _ => true) true k 3 [c5] = some y5 := hg 5 _ rfl;have b5 : Fits (P := Tryz.prog) 3 y5.1 := fun m hm => hf m (DataW.weights_mem_each (j := 5) (t := 3) rfl rfl m hm)
 obtain ⟨x0, rfl, h0⟩ := yl t0;obtain ⟨x1, rfl, h1⟩ := yl t1;obtain ⟨s, rfl, h2⟩ := ZQ t2 b2;obtain ⟨x3, rfl, h3⟩ := yl t3;obtain ⟨l, h4, h5⟩ := ZU t4 b4;obtain ⟨x5, rfl, h6⟩ := yl t5;exact ⟨⟨x0, x1, s, x3, l, x5⟩, c4, rfl, h4, h0, h1, h2, h3, h5, h6⟩
theorem st_el {n : Nat} {cs : List Value} {z : DataW H × List MemPlace} (h : DataW.trod enc Tryz.prog W 0 (fun _ => true) true n 89 cs = some z) (hb : Fits (P := Tryz.prog) 89 z.1) : ∃ (g : St) (u : Value), cs = [.int .i64 g.pos, .int .i64 g.ver, u] /\ SlN W u g.vars /\ StWf g := by
 obtain ⟨xs, k, _, hx, hcl, hxl, hg⟩ := DataW.trod_struct Tryz.underlying89 h;have hcn : cs.length = 3 := hcl.trans (by kernel_rfl);obtain ⟨c0, c1, c2, rfl⟩ : ∃ c0 c1 c2, cs = [c0, c1, c2] := by
  match cs, hcn with
  | [c0, c1, c2], _ => exact ⟨c0, c1, c2, rfl⟩
 obtain ⟨y0, y1, y2, rfl⟩ : ∃ y0 y1 y2, xs = [y0, y1, y2] := by
  match xs, hxl with
  | [y0, y1, y2], _ => exact ⟨y0, y1, y2, rfl⟩
 subst hx;have hf : ∀ m ∈ DataW.weightsEach Tryz.prog [3, 3, 57] [y0.1, y1.1, y2.1], m <= reachBytes := fun m hm => hb m (by
  unfold DataW.weights;rw [Tryz.underlying89];exact hm)
 have t0 : DataW.trod enc Tryz.prog W 0 (fun _ => true) true k 3 [c0] = some y0 := hg 0 _ rfl;have b0 : Fits (P := Tryz.prog) 3 y0.1 := fun m hm => hf m (DataW.weights_mem_each (j := 0) (t := 3) rfl rfl m hm)
 have t1 : DataW.trod enc Tryz.prog W 0 (fun _ => true) true k 3 [c1] = some y1 := hg 1 _ rfl;have b1 : Fits (P := Tryz.prog) 3 y1.1 := fun m hm => hf m (DataW.weights_mem_each (j := 1) (t := 3) rfl rfl m hm)
 have t2 : DataW.trod enc Tryz.prog W 0 (fun _ => true) true k 57 [c2] = some y2 := hg 2 _ rfl;have b2 : Fits (P := Tryz.prog) 57 y2.1 := fun m hm => hf m (DataW.weights_mem_each (j := 2) (t := 57) rfl rfl m hm)
 obtain ⟨x0, rfl, h0⟩ := yl t0;obtain ⟨x1, rfl, h1⟩ := yl t1;obtain ⟨l, h4, h5⟩ := ZU t2 b2;exact ⟨⟨x0, x1, l⟩, c2, rfl, h4, h0, h1, h5⟩
theorem it_el {n : Nat} {cs : List Value} {z : DataW H × List MemPlace} (h : DataW.trod enc Tryz.prog W 0 (fun _ => true) true n 91 cs = some z) (hb : Fits (P := Tryz.prog) 91 z.1) : ∃ g, ItIs W cs g /\ ItWf g := by
 obtain ⟨xs, k, _, hx, hcl, hxl, hg⟩ := DataW.trod_struct Tryz.underlying91 h;have hcn : cs.length = 4 := hcl.trans (by kernel_rfl);obtain ⟨c0, c1, c2, c3, rfl⟩ : ∃ c0 c1 c2 c3, cs = [c0, c1, c2, c3] := by
  match cs, hcn with
  | [c0, c1, c2, c3], _ => exact ⟨c0, c1, c2, c3, rfl⟩
 obtain ⟨y0, y1, rfl⟩ : ∃ y0 y1, xs = [y0, y1] := by
  match xs, hxl with
  | [y0, y1], _ => exact ⟨y0, y1, rfl⟩
 subst hx;have hf : ∀ m ∈ DataW.weightsEach Tryz.prog [9, 89] [y0.1, y1.1], m <= reachBytes := fun m hm => hb m (by
  unfold DataW.weights;rw [Tryz.underlying91];exact hm)
 have t0 : DataW.trod enc Tryz.prog W 0 (fun _ => true) true k 9 [c0] = some y0 := hg 0 _ rfl;have b0 : Fits (P := Tryz.prog) 9 y0.1 := fun m hm => hf m (DataW.weights_mem_each (j := 0) (t := 9) rfl rfl m hm)
 have t1 : DataW.trod enc Tryz.prog W 0 (fun _ => true) true k 89 [c1, c2, c3] = some y1 := hg 1 _ rfl;have b1 : Fits (P := Tryz.prog) 89 y1.1 := fun m hm => hf m (DataW.weights_mem_each (j := 1) (t := 89) rfl rfl m hm)
 obtain ⟨s, rfl, h2⟩ := ZQ t0 b0;obtain ⟨g, u, he, h3, h4⟩ := st_el t1 b1;cases he
 exact ⟨⟨s, g⟩, ⟨_, rfl, h3⟩, h2, h4⟩
theorem its_el {n : Nat} {c : Value} {z : DataW H × List MemPlace} (h : DataW.trod enc Tryz.prog W 0 (fun _ => true) true n 25 [c] = some z) (hb : Fits (P := Tryz.prog) 25 z.1) : ∃ l, ItsIs W c l /\ ItsWf l := by
 obtain ⟨l, h1, h2, h3⟩ := ja (X := It) (k := 4) (Q := ItIs W) (R := ItWf) Tryz.underlying25 (by kernel_rfl) (by decide) (by rw [show Tryz.prog.bytesOf 91 = 56 by kernel_rfl]; decide) (fun n cs z h hb => it_el h hb) h hb;exact ⟨l, h1, h2, h3⟩
theorem vd_el {n : Nat} {cs : List Value} {z : DataW H × List MemPlace} (h : DataW.trod enc Tryz.prog W 0 (fun _ => true) true n 82 cs = some z) (hb : Fits (P := Tryz.prog) 82 z.1) : ∃ g, VdIs cs g /\ VdWf g := by
 obtain ⟨xs, k, _, hx, hcl, hxl, hg⟩ := DataW.trod_struct Tryz.underlying82 h;have hcn : cs.length = 2 := hcl.trans (by kernel_rfl);obtain ⟨c0, c1, rfl⟩ : ∃ c0 c1, cs = [c0, c1] := by
  match cs, hcn with
  | [c0, c1], _ => exact ⟨c0, c1, rfl⟩
 obtain ⟨y0, y1, rfl⟩ : ∃ y0 y1, xs = [y0, y1] := by
  match xs, hxl with
  | [y0, y1], _ => exact ⟨y0, y1, rfl⟩
 subst hx;have hf : ∀ m ∈ DataW.weightsEach Tryz.prog [3, 3] [y0.1, y1.1], m <= reachBytes := fun m hm => hb m (by
  unfold DataW.weights;rw [Tryz.underlying82];exact hm)
 have t0 : DataW.trod enc Tryz.prog W 0 (fun _ => true) true k 3 [c0] = some y0 := hg 0 _ rfl;have b0 : Fits (P := Tryz.prog) 3 y0.1 := fun m hm => hf m (DataW.weights_mem_each (j := 0) (t := 3) rfl rfl m hm)
 have t1 : DataW.trod enc Tryz.prog W 0 (fun _ => true) true k 3 [c1] = some y1 := hg 1 _ rfl;have b1 : Fits (P := Tryz.prog) 3 y1.1 := fun m hm => hf m (DataW.weights_mem_each (j := 1) (t := 3) rfl rfl m hm)
 obtain ⟨x0, rfl, h0⟩ := yl t0;obtain ⟨x1, rfl, h1⟩ := yl t1;exact ⟨⟨x0, x1⟩, rfl, h0, h1⟩
theorem vds_el {n : Nat} {c : Value} {z : DataW H × List MemPlace} (h : DataW.trod enc Tryz.prog W 0 (fun _ => true) true n 26 [c] = some z) (hb : Fits (P := Tryz.prog) 26 z.1) : ∃ l, VdsIs W c l /\ VdsWf l := by
 obtain ⟨l, h1, h2, h3⟩ := ja (X := Vd) (k := 2) (Q := VdIs) (R := VdWf) Tryz.underlying26 (by kernel_rfl) (by decide) (by rw [show Tryz.prog.bytesOf 82 = 16 by kernel_rfl]; decide) (fun n cs z h hb => vd_el h hb) h hb;exact ⟨l, h1, h2, h3⟩
theorem fl_el {n : Nat} {c : Value} {z : DataW H × List MemPlace} (h : DataW.trod enc Tryz.prog W 0 (fun _ => true) true n 22 [c] = some z) (hb : Fits (P := Tryz.prog) 22 z.1) : ∃ l, SlT W c l /\ FlWf l := by
 obtain ⟨l, ⟨a, cap, rfl, hs⟩, h2, h3⟩ := ja (X := List UInt8) (k := 1) (Q := fun cs x => cs = [sv x]) (R := TxWf) Tryz.underlying22 (by kernel_rfl) (by decide) (by rw [show Tryz.prog.bytesOf 9 = 16 by kernel_rfl]; decide) (fun n cs z h hb => by
  obtain ⟨s, g, _, _⟩ := DataW.trod_string Tryz.underlying9 h;subst g;obtain ⟨x, hx, hw⟩ := ZQ h hb;exact ⟨x, by rw [hx]; rfl, hw⟩) h hb
 refine ⟨l, ⟨a, cap, by rw [List.length_map], fun j u hj => ?_⟩, h2, h3⟩;rw [List.getElem?_map] at hj;cases hz : l[j]? with
 | none => rw [hz] at hj; cases hj
 | some x =>
  rw [hz] at hj;cases hj
  obtain ⟨b, off, rfl, cs, _, rfl, hc⟩ := hs j x hz;refine ⟨b, off, rfl, ?_⟩;have := hc 0 _ rfl;rw [Nat.mul_one] at this;exact this
end
section
variable {H : Type} {enc : TypeId × Value -> H} {W : World}
instance : Inhabited Cm := ⟨⟨0, 0, [], 0, [], 0⟩⟩
instance : Inhabited En := ⟨⟨0, [], [], 0, 0⟩⟩
theorem cm_el2 {n : Nat} {cs : List Value} {z : DataW H × List MemPlace} (h : DataW.trod enc Tryz.prog W 0 (fun _ => true) true n 59 cs = some z) (hb : Fits (P := Tryz.prog) 59 z.1) : ∃ g, CmIs W cs g /\ CmWf g := by
 obtain ⟨g, u, hc, hu, hw⟩ := cm_el h hb;exact ⟨g, ⟨u, hc, hu⟩, hw⟩
theorem cms_el {n : Nat} {c : Value} {z : DataW H × List MemPlace} (h : DataW.trod enc Tryz.prog W 0 (fun _ => true) true n 23 [c] = some z) (hb : Fits (P := Tryz.prog) 23 z.1) : ∃ l, CmsIs W c l /\ ((∀ x ∈ l, CmWf x) /\ l.length <= 17592186044416) := by
 obtain ⟨l, h1, h2, h3⟩ := ja (X := Cm) (k := 6) (Q := CmIs W) (R := CmWf) Tryz.underlying23 (by kernel_rfl) (by decide) (by rw [show Tryz.prog.bytesOf 59 = 72 by kernel_rfl]; decide) (fun n cs z h hb => cm_el2 h hb) h hb;exact ⟨l, h1, h2, h3⟩
theorem en_el {n : Nat} {cs : List Value} {z : DataW H × List MemPlace} (h : DataW.trod enc Tryz.prog W 0 (fun _ => true) true n 53 cs = some z) (hb : Fits (P := Tryz.prog) 53 z.1) : ∃ g, EnIs W cs g /\ EnWf g := by
 obtain ⟨xs, k, _, hx, hcl, hxl, hg⟩ := DataW.trod_struct Tryz.underlying53 h;have hcn : cs.length = 5 := hcl.trans (by kernel_rfl);obtain ⟨c0, c1, c2, c3, c4, rfl⟩ : ∃ c0 c1 c2 c3 c4, cs = [c0, c1, c2, c3, c4] := by
  match cs, hcn with
  | [c0, c1, c2, c3, c4], _ => exact ⟨c0, c1, c2, c3, c4, rfl⟩
 obtain ⟨y0, y1, y2, y3, y4, rfl⟩ : ∃ y0 y1 y2 y3 y4, xs = [y0, y1, y2, y3, y4] := by
  match xs, hxl with
  | [y0, y1, y2, y3, y4], _ => exact ⟨y0, y1, y2, y3, y4, rfl⟩
 subst hx;have hf : ∀ m ∈ DataW.weightsEach Tryz.prog [3, 9, 51, 3, 3] [y0.1, y1.1, y2.1, y3.1, y4.1], m <= reachBytes := fun m hm => hb m (by
  unfold DataW.weights;rw [Tryz.underlying53];exact hm)
 have t0 : DataW.trod enc Tryz.prog W 0 (fun _ => true) true k 3 [c0] = some y0 := hg 0 _ rfl;have b0 : Fits (P := Tryz.prog) 3 y0.1 := fun m hm => hf m (DataW.weights_mem_each (j := 0) (t := 3) rfl rfl m hm)
 have t1 : DataW.trod enc Tryz.prog W 0 (fun _ => true) true k 9 [c1] = some y1 := hg 1 _ rfl;have b1 : Fits (P := Tryz.prog) 9 y1.1 := fun m hm => hf m (DataW.weights_mem_each (j := 1) (t := 9) rfl rfl m hm)
 have t2 : DataW.trod enc Tryz.prog W 0 (fun _ => true) true k 51 [c2] = some y2 := hg 2 _ rfl;have b2 : Fits (P := Tryz.prog) 51 y2.1 := fun m hm => hf m (DataW.weights_mem_each (j := 2) (t := 51) rfl rfl m hm)
 have t3 : DataW.trod enc Tryz.prog W 0 (fun _ => true) true k 3 [c3] = some y3 := hg 3 _ rfl;have b3 : Fits (P := Tryz.prog) 3 y3.1 := fun m hm => hf m (DataW.weights_mem_each (j := 3) (t := 3) rfl rfl m hm)
 have t4 : DataW.trod enc Tryz.prog W 0 (fun _ => true) true k 3 [c4] = some y4 := hg 4 _ rfl;have b4 : Fits (P := Tryz.prog) 3 y4.1 := fun m hm => hf m (DataW.weights_mem_each (j := 4) (t := 3) rfl rfl m hm)
 obtain ⟨x0, rfl, h0⟩ := yl t0;obtain ⟨s, rfl, h1⟩ := ZQ t1 b1;obtain ⟨l, h2, h3⟩ := evs_el t2 b2;obtain ⟨x3, rfl, h4⟩ := yl t3;obtain ⟨x4, rfl, h5⟩ := yl t4;exact ⟨⟨x0, s, l, x3, x4⟩, ⟨c2, rfl, h2⟩, h0, h1, h3, h4, h5⟩
theorem ens_el {n : Nat} {c : Value} {z : DataW H × List MemPlace} (h : DataW.trod enc Tryz.prog W 0 (fun _ => true) true n 24 [c] = some z) (hb : Fits (P := Tryz.prog) 24 z.1) : ∃ l, EnsIs W c l /\ ((∀ x ∈ l, EnWf x) /\ l.length <= 17592186044416) := by
 obtain ⟨l, h1, h2, h3⟩ := ja (X := En) (k := 5) (Q := EnIs W) (R := EnWf) Tryz.underlying24 (by kernel_rfl) (by decide) (by rw [show Tryz.prog.bytesOf 53 = 64 by kernel_rfl]; decide) (fun n cs z h hb => en_el h hb) h hb;exact ⟨l, h1, h2, h3⟩
theorem fr_el {n : Nat} {cs : List Value} {z : DataW H × List MemPlace} (h : DataW.trod enc Tryz.prog W 0 (fun _ => true) true n 28 cs = some z) (hb : Fits (P := Tryz.prog) 28 z.1) : ∃ (f : Fr) (v5 v6 v7 v8 v9 : Value), cs = frCells f v5 v6 v7 v8 v9 /\ FrIs W f v5 v6 v7 v8 v9 /\ FrWf f := by
 obtain ⟨xs, k, _, hx, hcl, hxl, hg⟩ := DataW.trod_struct Tryz.underlying28 h;have hcn : cs.length = 10 := hcl.trans (by kernel_rfl);obtain ⟨c0, c1, c2, c3, c4, c5, c6, c7, c8, c9, rfl⟩ : ∃ c0 c1 c2 c3 c4 c5 c6 c7 c8 c9, cs = [c0, c1, c2, c3, c4, c5, c6, c7, c8, c9] := by
  match cs, hcn with
  | [c0, c1, c2, c3, c4, c5, c6, c7, c8, c9], _ => exact ⟨c0, c1, c2, c3, c4, c5, c6, c7, c8, c9, rfl⟩
 obtain ⟨y0, y1, y2, y3, y4, y5, y6, y7, y8, y9, rfl⟩ : ∃ y0 y1 y2 y3 y4 y5 y6 y7 y8 y9, xs = [y0, y1, y2, y3, y4, y5, y6, y7, y8, y9] := by
  match xs, hxl with
  | [y0, y1, y2, y3, y4, y5, y6, y7, y8, y9], _ => exact ⟨y0, y1, y2, y3, y4, y5, y6, y7, y8, y9, rfl⟩
 subst hx;have hf : ∀ m ∈ DataW.weightsEach Tryz.prog [3, 3, 3, 3, 3, 22, 23, 24, 25, 26] [y0.1, y1.1, y2.1, y3.1, y4.1, y5.1, y6.1, y7.1, y8.1, y9.1], m <= reachBytes := fun m hm => hb m (by
  unfold DataW.weights;rw [Tryz.underlying28];exact hm)
 have t0 : DataW.trod enc Tryz.prog W 0 (fun _ => true) true k 3 [c0] = some y0 := hg 0 _ rfl;have b0 : Fits (P := Tryz.prog) 3 y0.1 := fun m hm => hf m (DataW.weights_mem_each (j := 0) (t := 3) rfl rfl m hm)
 have t1 : DataW.trod enc Tryz.prog W 0 (fun _ => true) true k 3 [c1] = some y1 := hg 1 _ rfl;have b1 : Fits (P := Tryz.prog) 3 y1.1 := fun m hm => hf m (DataW.weights_mem_each (j := 1) (t := 3) rfl rfl m hm)
 have t2 : DataW.trod enc Tryz.prog W 0 (fun _ => true) true k 3 [c2] = some y2 := hg 2 _ rfl;have b2 : Fits (P := Tryz.prog) 3 y2.1 := fun m hm => hf m (DataW.weights_mem_each (j := 2) (t := 3) rfl rfl m hm)
 have t3 : DataW.trod enc Tryz.prog W 0 (fun _ => true) true k 3 [c3] = some y3 := hg 3 _ rfl;have b3 : Fits (P := Tryz.prog) 3 y3.1 := fun m hm => hf m (DataW.weights_mem_each (j := 3) (t := 3) rfl rfl m hm)
 have t4 : DataW.trod enc Tryz.prog W 0 (fun _ => true) true k 3 [c4] = some y4 := hg 4 _ rfl;have b4 : Fits (P := Tryz.prog) 3 y4.1 := fun m hm => hf m (DataW.weights_mem_each (j := 4) (t := 3) rfl rfl m hm)
 have t5 : DataW.trod enc Tryz.prog W 0 (fun _ => true) true k 22 [c5] = some y5 := hg 5 _ rfl;have b5 : Fits (P := Tryz.prog) 22 y5.1 := fun m hm => hf m (DataW.weights_mem_each (j := 5) (t := 22) rfl rfl m hm)
 have t6 : DataW.trod enc Tryz.prog W 0 (fun _ => true) true k 23 [c6] = some y6 := hg 6 _ rfl;have b6 : Fits (P := Tryz.prog) 23 y6.1 := fun m hm => hf m (DataW.weights_mem_each (j := 6) (t := 23) rfl rfl m hm)
 have t7 : DataW.trod enc Tryz.prog W 0 (fun _ => true) true k 24 [c7] = some y7 := hg 7 _ rfl;have b7 : Fits (P := Tryz.prog) 24 y7.1 := fun m hm => hf m (DataW.weights_mem_each (j := 7) (t := 24) rfl rfl m hm)
 have t8 : DataW.trod enc Tryz.prog W 0 (fun _ => true) true k 25 [c8] = some y8 := hg 8 _ rfl;have b8 : Fits (P := Tryz.prog) 25 y8.1 := fun m hm => hf m (DataW.weights_mem_each (j := 8) (t := 25) rfl rfl m hm)
 have t9 : DataW.trod enc Tryz.prog W 0 (fun _ => true) true k 26 [c9] = some y9 := hg 9 _ rfl;have b9 : Fits (P := Tryz.prog) 26 y9.1 := fun m hm => hf m (DataW.weights_mem_each (j := 9) (t := 26) rfl rfl m hm)
 obtain ⟨x0, rfl, h0⟩ := yl t0;obtain ⟨x1, rfl, h1⟩ := yl t1;obtain ⟨x2, rfl, h2⟩ := yl t2;obtain ⟨x3, rfl, h3⟩ := yl t3;obtain ⟨x4, rfl, h4⟩ := yl t4;obtain ⟨l5, h5, g5⟩ := fl_el t5 b5;obtain ⟨l6, h6, g6⟩ := cms_el t6 b6;obtain ⟨l7, h7, g7⟩ := ens_el t7 b7;obtain ⟨l8, h8, g8⟩ := its_el t8 b8;obtain ⟨l9, h9, g9⟩ := vds_el t9 b9;exact ⟨⟨x0, x1, x2, x3, x4, l5, l6, l7, l8, l9⟩, c5, c6, c7, c8, c9, rfl, ⟨h5, h6, h7, h8, h9⟩, ⟨h0, h1, h2, h3, h4, g5, g6, g7, g8, g9⟩⟩
end
end Go.Proofs.YtaidhoepnefcpaaGreat.C10
