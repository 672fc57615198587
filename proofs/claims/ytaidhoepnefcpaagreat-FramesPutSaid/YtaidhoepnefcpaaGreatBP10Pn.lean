/-
  Layer 10, the program: what may be laid.
-/
import Derived.Test.YtaidhoepnefcpaaGreatBP9Pa
import Derived.Laws.Cover1
namespace Go.Proofs.YtaidhoepnefcpaaGreat.C10
open Go Go.RowKit Go.Proofs B K P8
set_option linter.unusedVariables false
set_option maxRecDepth 100000
set_option maxHeartbeats 2000000
structure WdP (S : World -> Prop) where
 val : World
 ok : S val
theorem zW {P : Program} {S : World -> Prop} {id : Nat} {Q : Exit -> Act -> World -> Prop} {a : Act} {w : World} {l : List Oper} (hm : P.follows .mixedOrders = true) (hB : Region.lexB .any l.toArray = true) (hS : S w.drew)
 (h : wpQuiet P l.toArray (fun w' => ∃ x : WdP S, w' = x.val) (fun a' => ∀ w', (∃ x : WdP S, w' = x.val) -> Q .normal a' w') l a) : (Code.region id l.toArray true).wp P Q a w :=
 wp_region_quiet (C := fun w' => ∃ x : WdP S, w' = x.val) hm hB ⟨⟨_, hS⟩, rfl⟩ (by simpa using h)
theorem yQ {P : Program} {S : World -> Prop} {f : FuncId} {args : Array Value} {v : Value} (h : ∀ W, S W -> Calls P f args W fun e w' => e = .returned v /\ S w') (x : WdP S) : Calls P f args x.val fun e w' => e = .returned v /\ ∃ y : WdP S, w' = y.val :=
 (h x.val x.ok).mono fun _ w' ⟨h1, h2⟩ => ⟨h1, ⟨w', h2⟩, rfl⟩
theorem mayValue1_any (n : Int) (w : World) : Calls Tryz.prog 208 #[.int .i64 n] w fun e w' => e = .returned (.bool (valP n)) /\ Below w.heap.size w w' := by
 have H := Lib.hid (fun W => zG n (-1099511627776) 1099511627776 W);go_enter Tryz.func208, Tryz.ntmps208;go_wp2_with (go_at_call 167; refine (H.out _).mono ?_; rintro _ w1 ⟨rfl, rfl⟩)
 go_ret;exact ⟨rfl, Below.refl _ _⟩
theorem uB (l : List Int) (most : Nat) (m : Int) (em : m = (most : Int)) (v : Value) (w : World) (h : SlN w v l) (hn : l.length <= 4611686018427387904) :
 Calls Tryz.prog 168 #[v, .int .i64 m] w fun e w' => e = .returned (.bool (valsP l most)) /\ Below w.heap.size w w' := by
 have H := Lib.hid (mayList_I l (fun W v x _ hv => by subst hv; exact mayValue1_any x W) most m em v w h hn);clear em;unfold valsP;obtain ⟨c, hc⟩ : ∃ c, (l.all valP && decide (l.length <= most)) = c := ⟨_, rfl⟩;rw [hc] at H ⊢;clear hc;obtain ⟨a, cap, rfl, -⟩ := h.open;clear h;go_enter Tryz.func168, Tryz.ntmps168;go_wp2_with (go_at_call 207; refine H.out.mono ?_; rintro _ w1 ⟨rfl, hb1⟩; have HB1 := Lib.hid hb1; clear hb1)
 go_ret;exact ⟨rfl, HB1.out⟩
theorem uR (pos : Int) (l : List Int) (v : Value) (w : World) (h : SlN w v l) (hn : l.length <= 4611686018427387904) :
 Calls Tryz.prog 176 #[.int .i64 pos, v] w fun e w' => e = .returned (.bool (inn pos 0 7 && valsP l 6)) /\ Below w.heap.size w w' := by
 have H0 := Lib.hid (fun W => zG pos 0 7 W);have H1 := Lib.hid (uB l 6 6 rfl v w h hn);have HB0 := Lib.hid (Below.refl w.heap.size w);obtain ⟨a, cap, rfl, -⟩ := h.open;obtain ⟨b0, e0⟩ : ∃ b, inn pos 0 7 = b := ⟨_, rfl⟩;obtain ⟨b1, e1⟩ : ∃ b, valsP l 6 = b := ⟨_, rfl⟩;rw [e0] at H0; rw [e1] at H1; rw [e0, e1]
 clear e0 e1 h;go_enter Tryz.func176, Tryz.ntmps176;go_wp2_with fail;refine (H0.out _).mono ?_;rintro _ w1 ⟨rfl, rfl⟩;cases b0 with
 | false =>
  go_wp2_with fail;go_ret;exact ⟨rfl, HB0.out⟩
 | true =>
  go_wp2_with fail;refine (H1.out).mono ?_;rintro _ w2 ⟨rfl, hb2⟩;have HB2 := Lib.hid (HB0.out.trans (hb2.mono HB0.out.size));clear hb2;go_wp2_with fail;go_ret;exact ⟨rfl, HB2.out⟩
theorem mayHead_any (c q : Int) (s : List UInt8) (w : World) (hs : s.length <= 140737488355328) :
 Calls Tryz.prog 166 #[.int .i64 c, .int .i64 q, .string (str s)] w fun e w' => e = .returned (.bool (headP c q s)) /\ Below w.heap.size w w' := by
 have H0 := Lib.hid (fun W => zG c 0 5 W);have H1 := Lib.hid (fun W => zG q 1 1099511627776 W);have H2 := Lib.hid (fun W => ug s (by omega) W);have HB0 := Lib.hid (Below.refl w.heap.size w);unfold headP;obtain ⟨b0, e0⟩ : ∃ b, inn c 0 5 = b := ⟨_, rfl⟩;obtain ⟨b1, e1⟩ : ∃ b, inn q 1 1099511627776 = b := ⟨_, rfl⟩;obtain ⟨b2, e2⟩ : ∃ b, streamP s = b := ⟨_, rfl⟩;rw [e0] at H0; rw [e1] at H1; rw [e2] at H2; rw [e0, e1, e2]
 clear e0 e1 e2;go_enter Tryz.func166, Tryz.ntmps166;go_wp2_with fail;refine (H0.out _).mono ?_;rintro _ w1 ⟨rfl, rfl⟩;cases b0 with
 | false =>
  go_wp2_with fail;go_ret;exact ⟨rfl, HB0.out⟩
 | true =>
  go_wp2_with fail;refine (H1.out _).mono ?_;rintro _ w2 ⟨rfl, rfl⟩;cases b1 with
  | false =>
   go_wp2_with fail;go_ret;exact ⟨rfl, HB0.out⟩
  | true =>
   go_wp2_with fail;refine (H2.out _).mono ?_;rintro _ w3 ⟨rfl, hb3⟩;have HB3 := Lib.hid (HB0.out.trans (hb3.mono HB0.out.size));clear hb3;go_wp2_with fail;go_ret;exact ⟨rfl, HB3.out⟩
theorem mayVd1_any (x : Vd) (w : World) : Calls Tryz.prog 183 #[.agg #[.int .i64 x.seq, .int .i64 x.code]] w fun e w' => e = .returned (.bool (vdOk x)) /\ Below w.heap.size w w' := by
 have H0 := Lib.hid (fun W => zG x.seq 1 1099511627776 W);have H1 := Lib.hid (fun W => zG x.code 0 63 W);unfold vdOk;obtain ⟨W0, hW0⟩ : ∃ W0, w.alloc (.cells #[.int .i64 x.seq, .int .i64 x.code] 82) = W0 := ⟨_, rfl⟩;have hB0 : Below w.heap.size w W0 := by rw [<- hW0]; exact zf _ _
 have k0 : W0.cell? ⟨w.heap.size, 0, none⟩ = some (.int .i64 x.seq) := by rw [<- hW0]; exact ze w [_, _] _ 0 _ rfl
 have k1 : W0.cell? ⟨w.heap.size, 1, none⟩ = some (.int .i64 x.code) := by rw [<- hW0]; exact ze w [_, _] _ 1 _ rfl
 obtain ⟨b0, e0⟩ : ∃ b, inn x.seq 1 1099511627776 = b := ⟨_, rfl⟩;obtain ⟨b1, e1⟩ : ∃ b, inn x.code 0 63 = b := ⟨_, rfl⟩;rw [e0] at H0; rw [e1] at H1; rw [e0, e1]
 have HB0 := Lib.hid hB0;clear e0 e1 hB0;go_enter Tryz.func183, Tryz.ntmps183;go_wp2_with fail;refine (H0.out _).mono ?_;rintro _ w1 ⟨rfl, rfl⟩;cases b0 with
 | false =>
  go_wp2_with fail;go_ret;exact ⟨rfl, HB0.out⟩
 | true =>
  go_wp2_with fail;refine (H1.out _).mono ?_;rintro _ w2 ⟨rfl, rfl⟩;go_wp2_with fail;go_ret;exact ⟨rfl, HB0.out⟩
theorem mayEv1_any (x : Ev) (u : Value) (w : World) (hu : SlN w u x.vars) (hn : x.vars.length <= 4611686018427387904) : Calls Tryz.prog 211 #[.agg #[.int .i64 x.pos, u]] w fun e w' => e = .returned (.bool (evP x)) /\ Below w.heap.size w w' := by
 unfold evP;obtain ⟨au, cu, rfl, -⟩ := id hu.open;obtain ⟨W0, hW0⟩ : ∃ W0, w.alloc (.cells #[.int .i64 x.pos, .slice au x.vars.length cu] 120) = W0 := ⟨_, rfl⟩;have hB0 : Below w.heap.size w W0 := by rw [<- hW0]; exact zf _ _
 have k0 : W0.cell? ⟨w.heap.size, 0, none⟩ = some (.int .i64 x.pos) := by rw [<- hW0]; exact ze w [_, _] _ 0 _ rfl
 have k1 : W0.cell? ⟨w.heap.size, 1, none⟩ = some (.slice au x.vars.length cu) := by rw [<- hW0]; exact ze w [_, _] _ 1 _ rfl
 have H0 := Lib.hid (uR x.pos x.vars _ W0 (hu.below hB0) hn);obtain ⟨b0, e0⟩ : ∃ b, (inn x.pos 0 7 && valsP x.vars 6) = b := ⟨_, rfl⟩;rw [e0] at H0; rw [e0]
 have HB0 := Lib.hid hB0;clear e0 hB0 hu;go_enter Tryz.func211, Tryz.ntmps211;go_wp2_with fail;refine (H0.out).mono ?_;rintro _ w1 ⟨rfl, hb1⟩;have HB1 := Lib.hid (HB0.out.trans (hb1.mono HB0.out.size));clear hb1;try clear hW0
 go_wp2_with fail;go_ret;exact ⟨rfl, HB1.out⟩
theorem itOk_eq (x : It) : itOk x = (streamP x.stream && ((inn x.st.pos 0 7 && valsP x.st.vars 6) && inn x.st.ver 0 1099511627776)) := by
 unfold itOk stP;generalize streamP x.stream = b1
 generalize inn x.st.pos 0 7 = b2
 generalize valsP x.st.vars 6 = b3
 generalize inn x.st.ver 0 1099511627776 = b4
 cases b1 <;> cases b2 <;> cases b3 <;> cases b4 <;> rfl
set_option maxHeartbeats 1000000 in
theorem mayIt1_any (x : It) (u : Value) (w : World) (hs : x.stream.length <= 140737488355328) (hu : SlN w u x.st.vars) (hn : x.st.vars.length <= 4611686018427387904) : Calls Tryz.prog 174 #[.agg #[.string (str x.stream), .int .i64 x.st.pos, .int .i64 x.st.ver, u]] w fun e w' => e = .returned (.bool (itOk x)) /\ Below w.heap.size w w' := by
 rw [itOk_eq];obtain ⟨au, cu, rfl, -⟩ := id hu.open;obtain ⟨W0, hW0⟩ : ∃ W0, w.alloc (.cells #[.string (str x.stream), .int .i64 x.st.pos, .int .i64 x.st.ver, .slice au x.st.vars.length cu] 91) = W0 := ⟨_, rfl⟩;have hB0 : Below w.heap.size w W0 := by rw [<- hW0]; exact zf _ _
 have k0 : W0.cell? ⟨w.heap.size, 0, none⟩ = some (.string (str x.stream)) := by rw [<- hW0]; exact ze w [_, _, _, _] _ 0 _ rfl
 have k1 : W0.cell? ⟨w.heap.size, 1, none⟩ = some (.int .i64 x.st.pos) := by rw [<- hW0]; exact ze w [_, _, _, _] _ 1 _ rfl
 have k2 : W0.cell? ⟨w.heap.size, 2, none⟩ = some (.int .i64 x.st.ver) := by rw [<- hW0]; exact ze w [_, _, _, _] _ 2 _ rfl
 have k3 : W0.cell? ⟨w.heap.size, 3, none⟩ = some (.slice au x.st.vars.length cu) := by rw [<- hW0]; exact ze w [_, _, _, _] _ 3 _ rfl
 have H0 := Lib.hid (fun W => ug x.stream (by omega) W);have H1 := Lib.hid (fun W (hb : Below w.heap.size w W) => uR x.st.pos x.st.vars _ W (hu.below hb) hn);have H2 := Lib.hid (fun W => zG x.st.ver 0 1099511627776 W);obtain ⟨b0, e0⟩ : ∃ b, streamP x.stream = b := ⟨_, rfl⟩;obtain ⟨b1, e1⟩ : ∃ b, (inn x.st.pos 0 7 && valsP x.st.vars 6) = b := ⟨_, rfl⟩;obtain ⟨b2, e2⟩ : ∃ b, inn x.st.ver 0 1099511627776 = b := ⟨_, rfl⟩;rw [e0] at H0; rw [e1] at H1; rw [e2] at H2; rw [e0, e1, e2]
 have HB0 := Lib.hid hB0;clear e0 e1 e2 hB0 hu;go_enter Tryz.func174, Tryz.ntmps174;go_wp2_with fail;refine (H0.out _).mono ?_;rintro _ w1 ⟨rfl, hb1⟩;have k1 := za hb1 k1;have k2 := za hb1 k2;have k3 := za hb1 k3;have HB1 := Lib.hid (HB0.out.trans (hb1.mono HB0.out.size));clear hb1;try clear hW0
 cases b0 with
 | false =>
  go_wp2_with fail;go_ret;exact ⟨rfl, HB1.out⟩
 | true =>
  go_wp2_with fail;refine (H1.out _ HB1.out).mono ?_;rintro _ w2 ⟨rfl, hb2⟩;have k1 := za hb2 k1;have k2 := za hb2 k2;have k3 := za hb2 k3;have HB2 := Lib.hid (HB1.out.trans (hb2.mono HB1.out.size));clear hb2;cases b1 with
  | false =>
   go_wp2_with fail;go_ret;exact ⟨rfl, HB2.out⟩
  | true =>
   go_wp2_with fail;refine (H2.out _).mono ?_;rintro _ w3 ⟨rfl, rfl⟩;go_wp2_with fail;go_ret;exact ⟨rfl, HB2.out⟩
theorem uw (l : List Ev) (v : Value) (w : World) (h : EvsIs w v l) (hw : EvsWf l) :
 Calls Tryz.prog 172 #[v] w fun e w' => e = .returned (.bool (evsP l)) /\ Below w.heap.size w w' := by
 have H := Lib.hid (mayList_E l (fun W v x hx hv => by obtain ⟨u, rfl, hu⟩ := hv; exact mayEv1_any x u W hu (by have := (hw.1 x hx).2.2; omega)) 3 3 rfl v w h (by have := hw.2; omega));unfold evsP;obtain ⟨c, hc⟩ : ∃ c, (l.all evP && decide (l.length <= 3)) = c := ⟨_, rfl⟩;rw [hc] at H ⊢;clear hc;obtain ⟨a, cap, rfl, -⟩ := h.open;clear h hw;go_enter Tryz.func172, Tryz.ntmps172;go_wp2_with (go_at_call 210; refine H.out.mono ?_; rintro _ w1 ⟨rfl, hb1⟩; have HB1 := Lib.hid hb1; clear hb1)
 go_ret;exact ⟨rfl, HB1.out⟩
theorem uy (l : List (List UInt8)) (v : Value) (w : World) (h : SlT w v l) (hw : FlWf l) :
 Calls Tryz.prog 113 #[v] w fun e w' => e = .returned (.bool (filtP l)) /\ Below w.heap.size w w' := by
 have H := Lib.hid (check9_any l v w h (fun x hx => by have := hw.1 x hx; unfold TxWf at this; omega));have hr : ((check9 l).2 == 0) = filtP l := by
  have := uM l;show _ = right9 l
  cases hc : right9 l with
  | true => exact beq_iff_eq.2 (this.2 hc)
  | false => exact beq_eq_false_iff_ne.2 (fun e => by rw [this.1 e] at hc; cases hc)
 obtain ⟨r1, r2, hc⟩ : ∃ a b, check9 l = (a, b) := ⟨_, _, rfl⟩;rw [hc] at H hr;dsimp only at H hr;rw [<- hr];clear hc hr hw;obtain ⟨a, cap, rfl, -⟩ := h.open;clear h;go_enter Tryz.func113, Tryz.ntmps113;go_wp2_with (go_at_call 163; refine H.out.mono ?_; rintro _ w1 ⟨rfl, hb1⟩; have HB1 := Lib.hid hb1; clear hb1)
 go_ret;exact ⟨rfl, HB1.out⟩
theorem keyV_any (x : Vd) (w : World) : Calls Tryz.prog 186 #[.agg #[.int .i64 x.seq, .int .i64 x.code]] w fun e w' => e = .returned (.int .i64 x.seq) /\ Below w.heap.size w w' := by
 obtain ⟨W0, hW0⟩ : ∃ W0, w.alloc (.cells #[.int .i64 x.seq, .int .i64 x.code] 82) = W0 := ⟨_, rfl⟩;have hB0 : Below w.heap.size w W0 := by rw [<- hW0]; exact zf _ _
 have k0 : W0.cell? ⟨w.heap.size, 0, none⟩ = some (.int .i64 x.seq) := by rw [<- hW0]; exact ze w [_, _] _ 0 _ rfl
 have k1 : W0.cell? ⟨w.heap.size, 1, none⟩ = some (.int .i64 x.code) := by rw [<- hW0]; exact ze w [_, _] _ 1 _ rfl
 have HB0 := Lib.hid hB0;clear hB0;go_enter Tryz.func186, Tryz.ntmps186;go_wp2_with fail;go_ret;exact ⟨rfl, HB0.out⟩
set_option maxHeartbeats 4000000 in
theorem riseV_any (l : List Vd) (v : Value) (w : World) (h : VdsIs w v l) (hn : l.length <= 17592186044416) :
 Calls Tryz.prog 185 #[v, .func (.func 186) #[] #[]] w fun e w' => e = .returned (.bool (riseL (fun a b => decide (a.seq < b.seq)) l)) /\ Below w.heap.size w w' := by
 obtain ⟨a, cap, rfl, hc⟩ := h.open;obtain ⟨N, hN⟩ : ∃ N, l.length = N := ⟨_, rfl⟩;have HC := Lib.hid hc;have HN := Lib.hid hN;rw [hN] at hn ⊢;clear hc h hN;go_enter Tryz.func185, Tryz.ntmps185;go_wp2_with fail;go_loopw [5] (fun i wr => ∃ K : Nat, i = .int .i64 ((K : Int) + 1) /\ K <= N /\ Hid (riseL (fun a b => decide (a.seq < b.seq)) l = riseL (fun a b => decide (a.seq < b.seq)) (l.drop K)) /\ Hid (Below w.heap.size w wr)) (fun i _ => N + 1 - (intOf i).toNat)
 case atStart => exact ⟨0, rfl, Nat.zero_le _, Lib.hid rfl, Lib.hid (Below.refl _ _)⟩
 case round =>
  obtain ⟨K, rfl, hK, HJ, HB⟩ := hrel;by_cases hlt : K + 1 < N
  ·have hltI : (K : Int) + 1 < (N : Int) := by omega
   have hk0 : 0 <= (K : Int) := by omega
   have hk1 : 0 <= (K : Int) + 1 := by omega
   have hkN : (K : Int) < (N : Int) := by omega
   have hw1 : IntKind.i64.wrap ((K : Int) + 1 + 1) = (K : Int) + 1 + 1 := IntWalk.i64_in _ (by omega);have hw2 : IntKind.i64.wrap ((K : Int) + 1 - 1) = (K : Int) := by rw [Int.add_sub_cancel]; exact IntWalk.i64_in _ (by omega)
   have ht1 : ((K : Int) + 1).toNat = K + 1 := by omega
   obtain ⟨x, hx⟩ : ∃ x, l[K]? = some x := ⟨_, List.getElem?_eq_getElem (by rw [HN.out]; omega)⟩;obtain ⟨y, hy⟩ : ∃ y, l[K + 1]? = some y := ⟨_, List.getElem?_eq_getElem (by rw [HN.out]; exact hlt)⟩;have hd := HJ.out.trans (jB hx hy);obtain ⟨b, off, ea, cs, -, rfl, hcell⟩ := HC.out K x hx;subst ea;obtain ⟨b2, off2, ea2, cs2, -, rfl, hcell2⟩ := HC.out (K + 1) y hy;cases ea2
   have hS0 : (wr.drew.cell? ⟨b, off + K * 2, none⟩ = some (Value.int .i64 x.seq) /\ wr.drew.cell? ⟨b, off + K * 2 + 1, none⟩ = some (Value.int .i64 x.code) /\ wr.drew.cell? ⟨b, off + (K + 1) * 2, none⟩ = some (Value.int .i64 y.seq) /\ wr.drew.cell? ⟨b, off + (K + 1) * 2 + 1, none⟩ = some (Value.int .i64 y.code) /\ Below w.heap.size w wr.drew) := ⟨za HB.out.drew (hcell 0 _ rfl), za HB.out.drew (hcell 1 _ rfl), za HB.out.drew (hcell2 0 _ rfl), za HB.out.drew (hcell2 1 _ rfl), HB.out.drew⟩;have QG1 := yQ (S := fun W => (W.cell? ⟨b, off + K * 2, none⟩ = some (Value.int .i64 x.seq) /\ W.cell? ⟨b, off + K * 2 + 1, none⟩ = some (Value.int .i64 x.code) /\ W.cell? ⟨b, off + (K + 1) * 2, none⟩ = some (Value.int .i64 y.seq) /\ W.cell? ⟨b, off + (K + 1) * 2 + 1, none⟩ = some (Value.int .i64 y.code) /\ Below w.heap.size w W)) (f := 186) (args := #[.agg #[.int .i64 x.seq, .int .i64 x.code]]) (v := .int .i64 x.seq) (fun W hS => (keyV_any x W).mono fun e w2 hh => ⟨hh.1, (⟨za hh.2 hS.1, za hh.2 hS.2.1, za hh.2 hS.2.2.1, za hh.2 hS.2.2.2.1, hS.2.2.2.2.trans (hh.2.mono hS.2.2.2.2.size)⟩ : (w2.cell? ⟨b, off + K * 2, none⟩ = some (Value.int .i64 x.seq) /\ w2.cell? ⟨b, off + K * 2 + 1, none⟩ = some (Value.int .i64 x.code) /\ w2.cell? ⟨b, off + (K + 1) * 2, none⟩ = some (Value.int .i64 y.seq) /\ w2.cell? ⟨b, off + (K + 1) * 2 + 1, none⟩ = some (Value.int .i64 y.code) /\ Below w.heap.size w w2))⟩);have QG2 := yQ (S := fun W => (W.cell? ⟨b, off + K * 2, none⟩ = some (Value.int .i64 x.seq) /\ W.cell? ⟨b, off + K * 2 + 1, none⟩ = some (Value.int .i64 x.code) /\ W.cell? ⟨b, off + (K + 1) * 2, none⟩ = some (Value.int .i64 y.seq) /\ W.cell? ⟨b, off + (K + 1) * 2 + 1, none⟩ = some (Value.int .i64 y.code) /\ Below w.heap.size w W)) (f := 186) (args := #[.agg #[.int .i64 y.seq, .int .i64 y.code]]) (v := .int .i64 y.seq) (fun W hS => (keyV_any y W).mono fun e w2 hh => ⟨hh.1, (⟨za hh.2 hS.1, za hh.2 hS.2.1, za hh.2 hS.2.2.1, za hh.2 hS.2.2.2.1, hS.2.2.2.2.trans (hh.2.mono hS.2.2.2.2.size)⟩ : (w2.cell? ⟨b, off + K * 2, none⟩ = some (Value.int .i64 x.seq) /\ w2.cell? ⟨b, off + K * 2 + 1, none⟩ = some (Value.int .i64 x.code) /\ w2.cell? ⟨b, off + (K + 1) * 2, none⟩ = some (Value.int .i64 y.seq) /\ w2.cell? ⟨b, off + (K + 1) * 2 + 1, none⟩ = some (Value.int .i64 y.code) /\ Below w.heap.size w w2))⟩);have q0 := fun z : WdP (fun W => (W.cell? ⟨b, off + K * 2, none⟩ = some (Value.int .i64 x.seq) /\ W.cell? ⟨b, off + K * 2 + 1, none⟩ = some (Value.int .i64 x.code) /\ W.cell? ⟨b, off + (K + 1) * 2, none⟩ = some (Value.int .i64 y.seq) /\ W.cell? ⟨b, off + (K + 1) * 2 + 1, none⟩ = some (Value.int .i64 y.code) /\ Below w.heap.size w W)) => z.ok.1
   have q1 := fun z : WdP (fun W => (W.cell? ⟨b, off + K * 2, none⟩ = some (Value.int .i64 x.seq) /\ W.cell? ⟨b, off + K * 2 + 1, none⟩ = some (Value.int .i64 x.code) /\ W.cell? ⟨b, off + (K + 1) * 2, none⟩ = some (Value.int .i64 y.seq) /\ W.cell? ⟨b, off + (K + 1) * 2 + 1, none⟩ = some (Value.int .i64 y.code) /\ Below w.heap.size w W)) => z.ok.2.1
   have q2 := fun z : WdP (fun W => (W.cell? ⟨b, off + K * 2, none⟩ = some (Value.int .i64 x.seq) /\ W.cell? ⟨b, off + K * 2 + 1, none⟩ = some (Value.int .i64 x.code) /\ W.cell? ⟨b, off + (K + 1) * 2, none⟩ = some (Value.int .i64 y.seq) /\ W.cell? ⟨b, off + (K + 1) * 2 + 1, none⟩ = some (Value.int .i64 y.code) /\ Below w.heap.size w W)) => z.ok.2.2.1
   have q3 := fun z : WdP (fun W => (W.cell? ⟨b, off + K * 2, none⟩ = some (Value.int .i64 x.seq) /\ W.cell? ⟨b, off + K * 2 + 1, none⟩ = some (Value.int .i64 x.code) /\ W.cell? ⟨b, off + (K + 1) * 2, none⟩ = some (Value.int .i64 y.seq) /\ W.cell? ⟨b, off + (K + 1) * 2 + 1, none⟩ = some (Value.int .i64 y.code) /\ Below w.heap.size w W)) => z.ok.2.2.2.1
   haveI hne : Nonempty (WdP (fun W => (W.cell? ⟨b, off + K * 2, none⟩ = some (Value.int .i64 x.seq) /\ W.cell? ⟨b, off + K * 2 + 1, none⟩ = some (Value.int .i64 x.code) /\ W.cell? ⟨b, off + (K + 1) * 2, none⟩ = some (Value.int .i64 y.seq) /\ W.cell? ⟨b, off + (K + 1) * 2 + 1, none⟩ = some (Value.int .i64 y.code) /\ Below w.heap.size w W))) := ⟨⟨_, hS0⟩⟩
   try dsimp only at q0 q1 q2 q3
   clear hcell hcell2 hx hy;obtain ⟨c, hcv⟩ : ∃ c, decide (x.seq < y.seq) = c := ⟨_, rfl⟩;rw [hcv] at hd;have HD := Lib.hid hd;clear hd;cases c with
   | true =>
    have hlt2 : x.seq < y.seq := of_decide_eq_true hcv;have hge : ¬ y.seq <= x.seq := by omega
    have hge2 : decide (y.seq <= x.seq) = false := decide_eq_false hge;clear hcv;go_upto_region 4 with fail
    refine zW (S := fun W => (W.cell? ⟨b, off + K * 2, none⟩ = some (Value.int .i64 x.seq) /\ W.cell? ⟨b, off + K * 2 + 1, none⟩ = some (Value.int .i64 x.code) /\ W.cell? ⟨b, off + (K + 1) * 2, none⟩ = some (Value.int .i64 y.seq) /\ W.cell? ⟨b, off + (K + 1) * 2 + 1, none⟩ = some (Value.int .i64 y.code) /\ Below w.heap.size w W)) (by kernel_rfl) (by kernel_rfl) hS0 ?_;repeat (go_big_quiet_step (first | (with_reducible exact QG1 _) | (with_reducible exact QG2 _)))
    refine wpQuiet_nil ?_;intro _ hw';obtain ⟨⟨wq, hSq⟩, rfl⟩ := hw';try dsimp only
    clear hne q0 q1 q2 q3 hS0 QG1 QG2;go_wp2_with fail;go_roundw
    case rel => exact ⟨K + 1, by go_num, by omega, Lib.hid (by rw [HD.out]; rfl), Lib.hid hSq.2.2.2.2⟩
    case measure => simp [intOf]; omega
   | false =>
    have hlt2 : ¬ x.seq < y.seq := of_decide_eq_false hcv;have hge : y.seq <= x.seq := by omega
    have hge2 : decide (y.seq <= x.seq) = true := decide_eq_true hge;clear hcv;go_upto_region 4 with fail
    refine zW (S := fun W => (W.cell? ⟨b, off + K * 2, none⟩ = some (Value.int .i64 x.seq) /\ W.cell? ⟨b, off + K * 2 + 1, none⟩ = some (Value.int .i64 x.code) /\ W.cell? ⟨b, off + (K + 1) * 2, none⟩ = some (Value.int .i64 y.seq) /\ W.cell? ⟨b, off + (K + 1) * 2 + 1, none⟩ = some (Value.int .i64 y.code) /\ Below w.heap.size w W)) (by kernel_rfl) (by kernel_rfl) hS0 ?_;repeat (go_big_quiet_step (first | (with_reducible exact QG1 _) | (with_reducible exact QG2 _)))
    refine wpQuiet_nil ?_;intro _ hw';obtain ⟨⟨wq, hSq⟩, rfl⟩ := hw';try dsimp only
    clear hne q0 q1 q2 q3 hS0 QG1 QG2;go_wp2_with fail;go_ret;exact ⟨by rw [HD.out]; rfl, hSq.2.2.2.2⟩
  ·have hltI : ¬ (K : Int) + 1 < (N : Int) := by omega
   have hd := HJ.out;rw [ui (by rw [HN.out]; omega)] at hd;rw [hd];go_wp2_with fail;go_ret;exact ⟨rfl, HB.out⟩
theorem keyT_any (x : It) (au : Option Addr) (cu : Nat) (w : World) : Calls Tryz.prog 179 #[.agg #[.string (str x.stream), .int .i64 x.st.pos, .int .i64 x.st.ver, .slice au x.st.vars.length cu]] w fun e w' => e = .returned (.string (str x.stream)) /\ Below w.heap.size w w' := by
 obtain ⟨W0, hW0⟩ : ∃ W0, w.alloc (.cells #[.string (str x.stream), .int .i64 x.st.pos, .int .i64 x.st.ver, .slice au x.st.vars.length cu] 91) = W0 := ⟨_, rfl⟩;have hB0 : Below w.heap.size w W0 := by rw [<- hW0]; exact zf _ _
 have k0 : W0.cell? ⟨w.heap.size, 0, none⟩ = some (.string (str x.stream)) := by rw [<- hW0]; exact ze w [_, _, _, _] _ 0 _ rfl
 have k1 : W0.cell? ⟨w.heap.size, 1, none⟩ = some (.int .i64 x.st.pos) := by rw [<- hW0]; exact ze w [_, _, _, _] _ 1 _ rfl
 have k2 : W0.cell? ⟨w.heap.size, 2, none⟩ = some (.int .i64 x.st.ver) := by rw [<- hW0]; exact ze w [_, _, _, _] _ 2 _ rfl
 have k3 : W0.cell? ⟨w.heap.size, 3, none⟩ = some (.slice au x.st.vars.length cu) := by rw [<- hW0]; exact ze w [_, _, _, _] _ 3 _ rfl
 have HB0 := Lib.hid hB0;clear hB0;go_enter Tryz.func179, Tryz.ntmps179;go_wp2_with fail;go_ret;exact ⟨rfl, HB0.out⟩
set_option maxHeartbeats 4000000 in
theorem riseT_any (l : List It) (v : Value) (w : World) (h : ItsIs w v l) (hn : l.length <= 17592186044416) :
 Calls Tryz.prog 178 #[v, .func (.func 179) #[] #[]] w fun e w' => e = .returned (.bool (riseL (fun a b => lessL a.stream b.stream) l)) /\ Below w.heap.size w w' := by
 obtain ⟨a, cap, rfl, hc⟩ := h.open;obtain ⟨N, hN⟩ : ∃ N, l.length = N := ⟨_, rfl⟩;have HC := Lib.hid hc;have HN := Lib.hid hN;rw [hN] at hn ⊢;clear hc h hN;go_enter Tryz.func178, Tryz.ntmps178;go_wp2_with fail;go_loopw [5] (fun i wr => ∃ K : Nat, i = .int .i64 ((K : Int) + 1) /\ K <= N /\ Hid (riseL (fun a b => lessL a.stream b.stream) l = riseL (fun a b => lessL a.stream b.stream) (l.drop K)) /\ Hid (Below w.heap.size w wr)) (fun i _ => N + 1 - (intOf i).toNat)
 case atStart => exact ⟨0, rfl, Nat.zero_le _, Lib.hid rfl, Lib.hid (Below.refl _ _)⟩
 case round =>
  obtain ⟨K, rfl, hK, HJ, HB⟩ := hrel;by_cases hlt : K + 1 < N
  ·have hltI : (K : Int) + 1 < (N : Int) := by omega
   have hk0 : 0 <= (K : Int) := by omega
   have hk1 : 0 <= (K : Int) + 1 := by omega
   have hkN : (K : Int) < (N : Int) := by omega
   have hw1 : IntKind.i64.wrap ((K : Int) + 1 + 1) = (K : Int) + 1 + 1 := IntWalk.i64_in _ (by omega);have hw2 : IntKind.i64.wrap ((K : Int) + 1 - 1) = (K : Int) := by rw [Int.add_sub_cancel]; exact IntWalk.i64_in _ (by omega)
   have ht1 : ((K : Int) + 1).toNat = K + 1 := by omega
   obtain ⟨x, hx⟩ : ∃ x, l[K]? = some x := ⟨_, List.getElem?_eq_getElem (by rw [HN.out]; omega)⟩;obtain ⟨y, hy⟩ : ∃ y, l[K + 1]? = some y := ⟨_, List.getElem?_eq_getElem (by rw [HN.out]; exact hlt)⟩;have hd := HJ.out.trans (jB hx hy);obtain ⟨b, off, ea, cs, -, ⟨u, rfl, hu⟩, hcell⟩ := HC.out K x hx;subst ea;obtain ⟨b2, off2, ea2, cs2, -, ⟨u2, rfl, hu2⟩, hcell2⟩ := HC.out (K + 1) y hy;cases ea2
   obtain ⟨au, cu, rfl, -⟩ := id hu.open;obtain ⟨av, cv, rfl, -⟩ := id hu2.open;have hS0 : (wr.drew.cell? ⟨b, off + K * 4, none⟩ = some (Value.string (str x.stream)) /\ wr.drew.cell? ⟨b, off + K * 4 + 1, none⟩ = some (Value.int .i64 x.st.pos) /\ wr.drew.cell? ⟨b, off + K * 4 + 2, none⟩ = some (Value.int .i64 x.st.ver) /\ wr.drew.cell? ⟨b, off + K * 4 + 3, none⟩ = some (Value.slice au x.st.vars.length cu) /\ wr.drew.cell? ⟨b, off + (K + 1) * 4, none⟩ = some (Value.string (str y.stream)) /\ wr.drew.cell? ⟨b, off + (K + 1) * 4 + 1, none⟩ = some (Value.int .i64 y.st.pos) /\ wr.drew.cell? ⟨b, off + (K + 1) * 4 + 2, none⟩ = some (Value.int .i64 y.st.ver) /\ wr.drew.cell? ⟨b, off + (K + 1) * 4 + 3, none⟩ = some (Value.slice av y.st.vars.length cv) /\ Below w.heap.size w wr.drew) := ⟨za HB.out.drew (hcell 0 _ rfl), za HB.out.drew (hcell 1 _ rfl), za HB.out.drew (hcell 2 _ rfl), za HB.out.drew (hcell 3 _ rfl), za HB.out.drew (hcell2 0 _ rfl), za HB.out.drew (hcell2 1 _ rfl), za HB.out.drew (hcell2 2 _ rfl), za HB.out.drew (hcell2 3 _ rfl), HB.out.drew⟩;have QG1 := yQ (S := fun W => (W.cell? ⟨b, off + K * 4, none⟩ = some (Value.string (str x.stream)) /\ W.cell? ⟨b, off + K * 4 + 1, none⟩ = some (Value.int .i64 x.st.pos) /\ W.cell? ⟨b, off + K * 4 + 2, none⟩ = some (Value.int .i64 x.st.ver) /\ W.cell? ⟨b, off + K * 4 + 3, none⟩ = some (Value.slice au x.st.vars.length cu) /\ W.cell? ⟨b, off + (K + 1) * 4, none⟩ = some (Value.string (str y.stream)) /\ W.cell? ⟨b, off + (K + 1) * 4 + 1, none⟩ = some (Value.int .i64 y.st.pos) /\ W.cell? ⟨b, off + (K + 1) * 4 + 2, none⟩ = some (Value.int .i64 y.st.ver) /\ W.cell? ⟨b, off + (K + 1) * 4 + 3, none⟩ = some (Value.slice av y.st.vars.length cv) /\ Below w.heap.size w W)) (f := 179) (args := #[.agg #[.string (str x.stream), .int .i64 x.st.pos, .int .i64 x.st.ver, .slice au x.st.vars.length cu]]) (v := .string (str x.stream)) (fun W hS => (keyT_any x au cu W).mono fun e w2 hh => ⟨hh.1, (⟨za hh.2 hS.1, za hh.2 hS.2.1, za hh.2 hS.2.2.1, za hh.2 hS.2.2.2.1, za hh.2 hS.2.2.2.2.1, za hh.2 hS.2.2.2.2.2.1, za hh.2 hS.2.2.2.2.2.2.1, za hh.2 hS.2.2.2.2.2.2.2.1, hS.2.2.2.2.2.2.2.2.trans (hh.2.mono hS.2.2.2.2.2.2.2.2.size)⟩ : (w2.cell? ⟨b, off + K * 4, none⟩ = some (Value.string (str x.stream)) /\ w2.cell? ⟨b, off + K * 4 + 1, none⟩ = some (Value.int .i64 x.st.pos) /\ w2.cell? ⟨b, off + K * 4 + 2, none⟩ = some (Value.int .i64 x.st.ver) /\ w2.cell? ⟨b, off + K * 4 + 3, none⟩ = some (Value.slice au x.st.vars.length cu) /\ w2.cell? ⟨b, off + (K + 1) * 4, none⟩ = some (Value.string (str y.stream)) /\ w2.cell? ⟨b, off + (K + 1) * 4 + 1, none⟩ = some (Value.int .i64 y.st.pos) /\ w2.cell? ⟨b, off + (K + 1) * 4 + 2, none⟩ = some (Value.int .i64 y.st.ver) /\ w2.cell? ⟨b, off + (K + 1) * 4 + 3, none⟩ = some (Value.slice av y.st.vars.length cv) /\ Below w.heap.size w w2))⟩);have QG2 := yQ (S := fun W => (W.cell? ⟨b, off + K * 4, none⟩ = some (Value.string (str x.stream)) /\ W.cell? ⟨b, off + K * 4 + 1, none⟩ = some (Value.int .i64 x.st.pos) /\ W.cell? ⟨b, off + K * 4 + 2, none⟩ = some (Value.int .i64 x.st.ver) /\ W.cell? ⟨b, off + K * 4 + 3, none⟩ = some (Value.slice au x.st.vars.length cu) /\ W.cell? ⟨b, off + (K + 1) * 4, none⟩ = some (Value.string (str y.stream)) /\ W.cell? ⟨b, off + (K + 1) * 4 + 1, none⟩ = some (Value.int .i64 y.st.pos) /\ W.cell? ⟨b, off + (K + 1) * 4 + 2, none⟩ = some (Value.int .i64 y.st.ver) /\ W.cell? ⟨b, off + (K + 1) * 4 + 3, none⟩ = some (Value.slice av y.st.vars.length cv) /\ Below w.heap.size w W)) (f := 179) (args := #[.agg #[.string (str y.stream), .int .i64 y.st.pos, .int .i64 y.st.ver, .slice av y.st.vars.length cv]]) (v := .string (str y.stream)) (fun W hS => (keyT_any y av cv W).mono fun e w2 hh => ⟨hh.1, (⟨za hh.2 hS.1, za hh.2 hS.2.1, za hh.2 hS.2.2.1, za hh.2 hS.2.2.2.1, za hh.2 hS.2.2.2.2.1, za hh.2 hS.2.2.2.2.2.1, za hh.2 hS.2.2.2.2.2.2.1, za hh.2 hS.2.2.2.2.2.2.2.1, hS.2.2.2.2.2.2.2.2.trans (hh.2.mono hS.2.2.2.2.2.2.2.2.size)⟩ : (w2.cell? ⟨b, off + K * 4, none⟩ = some (Value.string (str x.stream)) /\ w2.cell? ⟨b, off + K * 4 + 1, none⟩ = some (Value.int .i64 x.st.pos) /\ w2.cell? ⟨b, off + K * 4 + 2, none⟩ = some (Value.int .i64 x.st.ver) /\ w2.cell? ⟨b, off + K * 4 + 3, none⟩ = some (Value.slice au x.st.vars.length cu) /\ w2.cell? ⟨b, off + (K + 1) * 4, none⟩ = some (Value.string (str y.stream)) /\ w2.cell? ⟨b, off + (K + 1) * 4 + 1, none⟩ = some (Value.int .i64 y.st.pos) /\ w2.cell? ⟨b, off + (K + 1) * 4 + 2, none⟩ = some (Value.int .i64 y.st.ver) /\ w2.cell? ⟨b, off + (K + 1) * 4 + 3, none⟩ = some (Value.slice av y.st.vars.length cv) /\ Below w.heap.size w w2))⟩);have q0 := fun z : WdP (fun W => (W.cell? ⟨b, off + K * 4, none⟩ = some (Value.string (str x.stream)) /\ W.cell? ⟨b, off + K * 4 + 1, none⟩ = some (Value.int .i64 x.st.pos) /\ W.cell? ⟨b, off + K * 4 + 2, none⟩ = some (Value.int .i64 x.st.ver) /\ W.cell? ⟨b, off + K * 4 + 3, none⟩ = some (Value.slice au x.st.vars.length cu) /\ W.cell? ⟨b, off + (K + 1) * 4, none⟩ = some (Value.string (str y.stream)) /\ W.cell? ⟨b, off + (K + 1) * 4 + 1, none⟩ = some (Value.int .i64 y.st.pos) /\ W.cell? ⟨b, off + (K + 1) * 4 + 2, none⟩ = some (Value.int .i64 y.st.ver) /\ W.cell? ⟨b, off + (K + 1) * 4 + 3, none⟩ = some (Value.slice av y.st.vars.length cv) /\ Below w.heap.size w W)) => z.ok.1
   have q1 := fun z : WdP (fun W => (W.cell? ⟨b, off + K * 4, none⟩ = some (Value.string (str x.stream)) /\ W.cell? ⟨b, off + K * 4 + 1, none⟩ = some (Value.int .i64 x.st.pos) /\ W.cell? ⟨b, off + K * 4 + 2, none⟩ = some (Value.int .i64 x.st.ver) /\ W.cell? ⟨b, off + K * 4 + 3, none⟩ = some (Value.slice au x.st.vars.length cu) /\ W.cell? ⟨b, off + (K + 1) * 4, none⟩ = some (Value.string (str y.stream)) /\ W.cell? ⟨b, off + (K + 1) * 4 + 1, none⟩ = some (Value.int .i64 y.st.pos) /\ W.cell? ⟨b, off + (K + 1) * 4 + 2, none⟩ = some (Value.int .i64 y.st.ver) /\ W.cell? ⟨b, off + (K + 1) * 4 + 3, none⟩ = some (Value.slice av y.st.vars.length cv) /\ Below w.heap.size w W)) => z.ok.2.1
   have q2 := fun z : WdP (fun W => (W.cell? ⟨b, off + K * 4, none⟩ = some (Value.string (str x.stream)) /\ W.cell? ⟨b, off + K * 4 + 1, none⟩ = some (Value.int .i64 x.st.pos) /\ W.cell? ⟨b, off + K * 4 + 2, none⟩ = some (Value.int .i64 x.st.ver) /\ W.cell? ⟨b, off + K * 4 + 3, none⟩ = some (Value.slice au x.st.vars.length cu) /\ W.cell? ⟨b, off + (K + 1) * 4, none⟩ = some (Value.string (str y.stream)) /\ W.cell? ⟨b, off + (K + 1) * 4 + 1, none⟩ = some (Value.int .i64 y.st.pos) /\ W.cell? ⟨b, off + (K + 1) * 4 + 2, none⟩ = some (Value.int .i64 y.st.ver) /\ W.cell? ⟨b, off + (K + 1) * 4 + 3, none⟩ = some (Value.slice av y.st.vars.length cv) /\ Below w.heap.size w W)) => z.ok.2.2.1
   have q3 := fun z : WdP (fun W => (W.cell? ⟨b, off + K * 4, none⟩ = some (Value.string (str x.stream)) /\ W.cell? ⟨b, off + K * 4 + 1, none⟩ = some (Value.int .i64 x.st.pos) /\ W.cell? ⟨b, off + K * 4 + 2, none⟩ = some (Value.int .i64 x.st.ver) /\ W.cell? ⟨b, off + K * 4 + 3, none⟩ = some (Value.slice au x.st.vars.length cu) /\ W.cell? ⟨b, off + (K + 1) * 4, none⟩ = some (Value.string (str y.stream)) /\ W.cell? ⟨b, off + (K + 1) * 4 + 1, none⟩ = some (Value.int .i64 y.st.pos) /\ W.cell? ⟨b, off + (K + 1) * 4 + 2, none⟩ = some (Value.int .i64 y.st.ver) /\ W.cell? ⟨b, off + (K + 1) * 4 + 3, none⟩ = some (Value.slice av y.st.vars.length cv) /\ Below w.heap.size w W)) => z.ok.2.2.2.1
   have q4 := fun z : WdP (fun W => (W.cell? ⟨b, off + K * 4, none⟩ = some (Value.string (str x.stream)) /\ W.cell? ⟨b, off + K * 4 + 1, none⟩ = some (Value.int .i64 x.st.pos) /\ W.cell? ⟨b, off + K * 4 + 2, none⟩ = some (Value.int .i64 x.st.ver) /\ W.cell? ⟨b, off + K * 4 + 3, none⟩ = some (Value.slice au x.st.vars.length cu) /\ W.cell? ⟨b, off + (K + 1) * 4, none⟩ = some (Value.string (str y.stream)) /\ W.cell? ⟨b, off + (K + 1) * 4 + 1, none⟩ = some (Value.int .i64 y.st.pos) /\ W.cell? ⟨b, off + (K + 1) * 4 + 2, none⟩ = some (Value.int .i64 y.st.ver) /\ W.cell? ⟨b, off + (K + 1) * 4 + 3, none⟩ = some (Value.slice av y.st.vars.length cv) /\ Below w.heap.size w W)) => z.ok.2.2.2.2.1
   have q5 := fun z : WdP (fun W => (W.cell? ⟨b, off + K * 4, none⟩ = some (Value.string (str x.stream)) /\ W.cell? ⟨b, off + K * 4 + 1, none⟩ = some (Value.int .i64 x.st.pos) /\ W.cell? ⟨b, off + K * 4 + 2, none⟩ = some (Value.int .i64 x.st.ver) /\ W.cell? ⟨b, off + K * 4 + 3, none⟩ = some (Value.slice au x.st.vars.length cu) /\ W.cell? ⟨b, off + (K + 1) * 4, none⟩ = some (Value.string (str y.stream)) /\ W.cell? ⟨b, off + (K + 1) * 4 + 1, none⟩ = some (Value.int .i64 y.st.pos) /\ W.cell? ⟨b, off + (K + 1) * 4 + 2, none⟩ = some (Value.int .i64 y.st.ver) /\ W.cell? ⟨b, off + (K + 1) * 4 + 3, none⟩ = some (Value.slice av y.st.vars.length cv) /\ Below w.heap.size w W)) => z.ok.2.2.2.2.2.1
   have q6 := fun z : WdP (fun W => (W.cell? ⟨b, off + K * 4, none⟩ = some (Value.string (str x.stream)) /\ W.cell? ⟨b, off + K * 4 + 1, none⟩ = some (Value.int .i64 x.st.pos) /\ W.cell? ⟨b, off + K * 4 + 2, none⟩ = some (Value.int .i64 x.st.ver) /\ W.cell? ⟨b, off + K * 4 + 3, none⟩ = some (Value.slice au x.st.vars.length cu) /\ W.cell? ⟨b, off + (K + 1) * 4, none⟩ = some (Value.string (str y.stream)) /\ W.cell? ⟨b, off + (K + 1) * 4 + 1, none⟩ = some (Value.int .i64 y.st.pos) /\ W.cell? ⟨b, off + (K + 1) * 4 + 2, none⟩ = some (Value.int .i64 y.st.ver) /\ W.cell? ⟨b, off + (K + 1) * 4 + 3, none⟩ = some (Value.slice av y.st.vars.length cv) /\ Below w.heap.size w W)) => z.ok.2.2.2.2.2.2.1
   have q7 := fun z : WdP (fun W => (W.cell? ⟨b, off + K * 4, none⟩ = some (Value.string (str x.stream)) /\ W.cell? ⟨b, off + K * 4 + 1, none⟩ = some (Value.int .i64 x.st.pos) /\ W.cell? ⟨b, off + K * 4 + 2, none⟩ = some (Value.int .i64 x.st.ver) /\ W.cell? ⟨b, off + K * 4 + 3, none⟩ = some (Value.slice au x.st.vars.length cu) /\ W.cell? ⟨b, off + (K + 1) * 4, none⟩ = some (Value.string (str y.stream)) /\ W.cell? ⟨b, off + (K + 1) * 4 + 1, none⟩ = some (Value.int .i64 y.st.pos) /\ W.cell? ⟨b, off + (K + 1) * 4 + 2, none⟩ = some (Value.int .i64 y.st.ver) /\ W.cell? ⟨b, off + (K + 1) * 4 + 3, none⟩ = some (Value.slice av y.st.vars.length cv) /\ Below w.heap.size w W)) => z.ok.2.2.2.2.2.2.2.1
   haveI hne : Nonempty (WdP (fun W => (W.cell? ⟨b, off + K * 4, none⟩ = some (Value.string (str x.stream)) /\ W.cell? ⟨b, off + K * 4 + 1, none⟩ = some (Value.int .i64 x.st.pos) /\ W.cell? ⟨b, off + K * 4 + 2, none⟩ = some (Value.int .i64 x.st.ver) /\ W.cell? ⟨b, off + K * 4 + 3, none⟩ = some (Value.slice au x.st.vars.length cu) /\ W.cell? ⟨b, off + (K + 1) * 4, none⟩ = some (Value.string (str y.stream)) /\ W.cell? ⟨b, off + (K + 1) * 4 + 1, none⟩ = some (Value.int .i64 y.st.pos) /\ W.cell? ⟨b, off + (K + 1) * 4 + 2, none⟩ = some (Value.int .i64 y.st.ver) /\ W.cell? ⟨b, off + (K + 1) * 4 + 3, none⟩ = some (Value.slice av y.st.vars.length cv) /\ Below w.heap.size w W))) := ⟨⟨_, hS0⟩⟩
   try dsimp only at q0 q1 q2 q3 q4 q5 q6 q7
   clear hcell hcell2 hx hy hu hu2;obtain ⟨c, hcv⟩ : ∃ c, lessL x.stream y.stream = c := ⟨_, rfl⟩;rw [hcv] at hd;have HD := Lib.hid hd;clear hd;cases c with
   | true =>
    have hbl : Op.bytesLess (str x.stream).toList (str y.stream).toList = true := by rw [zL, zL, uq]; exact hcv
    clear hcv;go_upto_region 4 with fail
    refine zW (S := fun W => (W.cell? ⟨b, off + K * 4, none⟩ = some (Value.string (str x.stream)) /\ W.cell? ⟨b, off + K * 4 + 1, none⟩ = some (Value.int .i64 x.st.pos) /\ W.cell? ⟨b, off + K * 4 + 2, none⟩ = some (Value.int .i64 x.st.ver) /\ W.cell? ⟨b, off + K * 4 + 3, none⟩ = some (Value.slice au x.st.vars.length cu) /\ W.cell? ⟨b, off + (K + 1) * 4, none⟩ = some (Value.string (str y.stream)) /\ W.cell? ⟨b, off + (K + 1) * 4 + 1, none⟩ = some (Value.int .i64 y.st.pos) /\ W.cell? ⟨b, off + (K + 1) * 4 + 2, none⟩ = some (Value.int .i64 y.st.ver) /\ W.cell? ⟨b, off + (K + 1) * 4 + 3, none⟩ = some (Value.slice av y.st.vars.length cv) /\ Below w.heap.size w W)) (by kernel_rfl) (by kernel_rfl) hS0 ?_;repeat (go_big_quiet_step (first | (with_reducible exact QG1 _) | (with_reducible exact QG2 _)))
    refine wpQuiet_nil ?_;intro _ hw';obtain ⟨⟨wq, hSq⟩, rfl⟩ := hw';try dsimp only
    clear hne q0 q1 q2 q3 q4 q5 q6 q7 hS0 QG1 QG2;go_wp2_with fail;go_roundw
    case rel => exact ⟨K + 1, by go_num, by omega, Lib.hid (by rw [HD.out]; rfl), Lib.hid hSq.2.2.2.2.2.2.2.2⟩
    case measure => simp [intOf]; omega
   | false =>
    have hbl : Op.bytesLess (str x.stream).toList (str y.stream).toList = false := by rw [zL, zL, uq]; exact hcv
    clear hcv;go_upto_region 4 with fail
    refine zW (S := fun W => (W.cell? ⟨b, off + K * 4, none⟩ = some (Value.string (str x.stream)) /\ W.cell? ⟨b, off + K * 4 + 1, none⟩ = some (Value.int .i64 x.st.pos) /\ W.cell? ⟨b, off + K * 4 + 2, none⟩ = some (Value.int .i64 x.st.ver) /\ W.cell? ⟨b, off + K * 4 + 3, none⟩ = some (Value.slice au x.st.vars.length cu) /\ W.cell? ⟨b, off + (K + 1) * 4, none⟩ = some (Value.string (str y.stream)) /\ W.cell? ⟨b, off + (K + 1) * 4 + 1, none⟩ = some (Value.int .i64 y.st.pos) /\ W.cell? ⟨b, off + (K + 1) * 4 + 2, none⟩ = some (Value.int .i64 y.st.ver) /\ W.cell? ⟨b, off + (K + 1) * 4 + 3, none⟩ = some (Value.slice av y.st.vars.length cv) /\ Below w.heap.size w W)) (by kernel_rfl) (by kernel_rfl) hS0 ?_;repeat (go_big_quiet_step (first | (with_reducible exact QG1 _) | (with_reducible exact QG2 _)))
    refine wpQuiet_nil ?_;intro _ hw';obtain ⟨⟨wq, hSq⟩, rfl⟩ := hw';try dsimp only
    clear hne q0 q1 q2 q3 q4 q5 q6 q7 hS0 QG1 QG2;go_wp2_with fail;go_ret;exact ⟨by rw [HD.out]; rfl, hSq.2.2.2.2.2.2.2.2⟩
  ·have hltI : ¬ (K : Int) + 1 < (N : Int) := by omega
   have hd := HJ.out;rw [ui (by rw [HN.out]; omega)] at hd;rw [hd];go_wp2_with fail;go_ret;exact ⟨rfl, HB.out⟩
set_option maxHeartbeats 1000000 in
theorem jy (l : List Vd) (v : Value) (w : World) (h : VdsIs w v l) (hw : VdsWf l) :
 Calls Tryz.prog 126 #[v] w fun e w' => e = .returned (.bool (vdsP l)) /\ Below w.heap.size w w' := by
 have H0 := Lib.hid (mayList_V l (fun W v x hx hv => by subst hv; exact mayVd1_any x W) 32 32 rfl v w h (by have := hw.2; omega));have H1 := Lib.hid (fun W (hb : Below w.heap.size w W) => riseV_any l v W (h.below hb) hw.2);rw [vds_all];obtain ⟨b0, e0⟩ : ∃ c, (l.all vdOk && decide (l.length <= 32)) = c := ⟨_, rfl⟩;obtain ⟨b1, e1⟩ : ∃ c, riseL (fun a b => decide (a.seq < b.seq)) l = c := ⟨_, rfl⟩;rw [e0] at H0; rw [e1] at H1; rw [e0, e1]
 have HB0 := Lib.hid (Below.refl w.heap.size w);clear e0 e1;obtain ⟨a, cap, rfl, -⟩ := h.open;clear h hw;go_enter Tryz.func126, Tryz.ntmps126;go_wp2_with fail;refine (H0.out).mono ?_;rintro _ w1 ⟨rfl, hb1⟩;have HB1 := Lib.hid (HB0.out.trans (hb1.mono HB0.out.size));clear hb1;try clear hW0
 cases b0 with
 | false =>
  go_wp2_with fail;go_ret;exact ⟨rfl, HB1.out⟩
 | true =>
  go_wp2_with fail;refine (H1.out _ HB1.out).mono ?_;rintro _ w2 ⟨rfl, hb2⟩;have HB2 := Lib.hid (HB1.out.trans (hb2.mono HB1.out.size));clear hb2;go_wp2_with fail;go_ret;exact ⟨rfl, HB2.out⟩
set_option maxHeartbeats 1000000 in
theorem uG (l : List It) (v : Value) (w : World) (h : ItsIs w v l) (hw : ItsWf l) :
 Calls Tryz.prog 123 #[v] w fun e w' => e = .returned (.bool (itemsP l)) /\ Below w.heap.size w w' := by
 have H0 := Lib.hid (mayList_T l (fun W v x hx hv => by obtain ⟨u, rfl, hu⟩ := hv; exact mayIt1_any x u W (hw.1 x hx).1 hu (by have := (hw.1 x hx).2.2.2.2; omega)) 64 64 rfl v w h (by have := hw.2; omega));have H1 := Lib.hid (fun W (hb : Below w.heap.size w W) => riseT_any l v W (h.below hb) hw.2);rw [jG];obtain ⟨b0, e0⟩ : ∃ c, (l.all itOk && decide (l.length <= 64)) = c := ⟨_, rfl⟩;obtain ⟨b1, e1⟩ : ∃ c, riseL (fun a b => lessL a.stream b.stream) l = c := ⟨_, rfl⟩;rw [e0] at H0; rw [e1] at H1; rw [e0, e1]
 have HB0 := Lib.hid (Below.refl w.heap.size w);clear e0 e1;obtain ⟨a, cap, rfl, -⟩ := h.open;clear h hw;go_enter Tryz.func123, Tryz.ntmps123;go_wp2_with fail;refine (H0.out).mono ?_;rintro _ w1 ⟨rfl, hb1⟩;have HB1 := Lib.hid (HB0.out.trans (hb1.mono HB0.out.size));clear hb1;try clear hW0
 cases b0 with
 | false =>
  go_wp2_with fail;go_ret;exact ⟨rfl, HB1.out⟩
 | true =>
  go_wp2_with fail;refine (H1.out _ HB1.out).mono ?_;rintro _ w2 ⟨rfl, hb2⟩;have HB2 := Lib.hid (HB1.out.trans (hb2.mono HB1.out.size));clear hb2;go_wp2_with fail;go_ret;exact ⟨rfl, HB2.out⟩
end Go.Proofs.YtaidhoepnefcpaaGreat.C10
