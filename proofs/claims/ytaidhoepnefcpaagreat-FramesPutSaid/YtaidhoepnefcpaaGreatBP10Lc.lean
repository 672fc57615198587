/-
  Layer 10, the program: lists of verdicts, events, items laid.
-/
import Derived.Test.YtaidhoepnefcpaaGreatBP10Lb
import Derived.Lib.AppendStr
import Derived.Laws.Externs
namespace Go.Proofs.YtaidhoepnefcpaaGreat.C10
open Go Go.RowKit Go.Proofs B K P8
set_option linter.unusedVariables false
set_option maxRecDepth 100000
structure Wn (b : Nat) (W W' : World) : Prop where
 keep : ∀ (k : Nat) (cs : Array Value) (T : TypeId) (fr : Nat × Nat), W.heap[k]? = some (.cells cs T fr) -> T ≠ 5 -> k ≠ b -> W'.heap[k]? = W.heap[k]?
theorem Wn.refl (b : Nat) (W : World) : Wn b W W := ⟨fun _ _ _ _ _ _ _ => rfl⟩
theorem Wn.trans {b : Nat} {W W1 W2 : World} (h : Wn b W W1) (h' : Wn b W1 W2) : Wn b W W2 := ⟨fun k cs T fr hk hT hne => by
 have h1 := h.keep k cs T fr hk hT hne;exact (h'.keep k cs T fr (h1.trans hk) hT hne).trans h1⟩
theorem Wn.of_below {b : Nat} {W W' : World} (h : Below W.heap.size W W') : Wn b W W' := ⟨fun k cs T fr hk _ _ => h.block k (Array.getElem?_eq_some_iff.1 hk).1⟩
theorem Wn.set (b i : Nat) (v : Value) (W : World) : Wn b W (W.setCell ⟨b, i, none⟩ v) := ⟨fun k cs T fr _ _ hne => Below.heap_setCell _ _ _ _ (fun e => hne e)⟩
theorem Wn.row {b k : Nat} {W W' : World} {cs : Array Value} {T : TypeId} {fr : Nat × Nat} (h : Wn b W W') (hk : W.heap[k]? = some (.cells cs T fr)) (hT : T ≠ 5) (hne : k ≠ b) : W'.heap[k]? = some (.cells cs T fr) := (h.keep k cs T fr hk hT hne).trans hk
def WrAt (B b : Nat) (p v : Value) (er : Int) (l : List UInt8) (W : World) : Prop :=
 B <= b /\ W.heap[b]? = some (.cells #[p, v, .int .i64 er] 48 (0, 0)) /\ W.ownsRow B 5 1 v l.length (Lib.byteCells l) /\ (p = .pointer none \/ p = .pointer (some ⟨b, 0, none⟩))
theorem WrAt.lt {B b : Nat} {p v : Value} {er : Int} {l : List UInt8} {W : World} (h : WrAt B b p v er l W) : b < W.heap.size := (Array.getElem?_eq_some_iff.1 h.2.1).1
theorem qG : 48 ≠ 5 := by decide
theorem own_ne {W : World} {B b : Nat} {e T : TypeId} {v : Value} {n : Nat} {xs : List Value} {cs : Array Value} {fr : Nat × Nat} (h : W.ownsRow B e 1 v n xs) (hb : W.heap[b]? = some (.cells cs T fr)) (hT : T ≠ e) : v.ownBlock ≠ some b := by
 intro he;rcases h.2 with ⟨rfl, _⟩ | ⟨g, cap, cur, rfl, _, hg, _⟩
 ·cases he
 ·simp only [Value.ownBlock, Option.some.injEq] at he
  subst he;rw [hb] at hg;simp only [Option.some.injEq, Obj.cells.injEq] at hg;exact hT hg.2.1
theorem WrAt.below {B b : Nat} {p v : Value} {er : Int} {l : List UInt8} {W W' : World} (h : WrAt B b p v er l W) (hb : Below W.heap.size W W') : WrAt B b p v er l W' :=
 ⟨h.1, (hb.block b h.lt).trans h.2.1, ownsRow_below h.2.2.1 hb, h.2.2.2⟩
theorem yT {W : World} {B b i : Nat} {v u : Value} {n : Nat} {xs : List Value} (h : W.ownsRow B 5 1 v n xs) (hne : v.ownBlock ≠ some b) : (W.setCell ⟨b, i, none⟩ u).ownsRow B 5 1 v n xs :=
 h.kept (row := some b) ⟨rfl, rfl, rfl, by simp [World.setCell], fun k _ hk => Below.heap_setCell _ _ _ _ (fun e => hk (by simp [e]))⟩ (Or.inr hne)
set_option maxHeartbeats 2000000 in
theorem wcopyCheck_any (B b : Nat) (p v : Value) (er : Int) (l : List UInt8) (w : World) (h : WrAt B b p v er l w) :
 Calls Tryz.prog 162 #[.pointer (some ⟨b, 0, none⟩)] w fun e w' => e = .returned (.tuple #[]) /\ WrAt B b (.pointer (some ⟨b, 0, none⟩)) v er l w' /\ Below B w w' /\ Wn b w w' := by
 obtain ⟨hB, hrow, hown, hp⟩ := h;have hs : (Tryz.prog.info? 46).map (·.size) = some 2 := by kernel_rfl
 obtain ⟨j, hj, hjs⟩ := Option.map_eq_some_iff.1 hs;have h0 := (zb hrow 0 _ rfl).1;have hf0 := (zb hrow 0 _ rfl).2;have hne := own_ne hown hrow qG;rcases hp with rfl | rfl
 ·have hsh : w.shape? b = some (48, 3) := by simp [World.shape?, hrow]
  go_enter Tryz.func162, Tryz.ntmps162;go_wp2_with fail;rw [Lib.run_to_unsafe w ⟨b, 0, none⟩ Tryz.underlying44 Tryz.underlying220 hj (by rw [hjs]; decide) hsh (Nat.zero_lt_succ 2)];simp only [Result.andThen];rw [Oper.upon_value];go_wp2_with fail;rw [run_callFunc_extern Tryz.func205 (by kernel_rfl) (by kernel_rfl) (by kernel_rfl) (e := Extern.AbiNoEscape.same) (by kernel_rfl)];rw [Lib.run_noEscape];simp only [Result.andThen];rw [Oper.upon_value];go_wp2_with fail;rw [Lib.run_from_unsafe w ⟨b, 0, none⟩ Tryz.underlying220 Tryz.underlying44 hj hsh (by kernel_rfl)];simp only [Result.andThen];rw [Oper.upon_value];go_wp2_with fail;go_end0
  exact ⟨rfl, ⟨hB, heap_setCell_same w b 0 _ _ _ hrow, yT hown hne, Or.inr rfl⟩, (Below.refl B w).setCell (p := ⟨b, 0, none⟩) hB _, Wn.set b 0 _ w⟩
 ·go_enter Tryz.func162, Tryz.ntmps162
  go_wp2_with fail;rw [Lib.run_neq_ptr_same w _ Tryz.underlying44 hj];go_wp2_with fail;go_end0
  exact ⟨rfl, ⟨hB, hrow, hown, Or.inr rfl⟩, Below.refl B w, Wn.refl b w⟩
set_option maxHeartbeats 4000000 in
theorem yJ (B b : Nat) (p v : Value) (er : Int) (l s : List UInt8) (w : World) (h : WrAt B b p v er l w) (hlen : l.length + s.length <= 140737488355328) (hBw : B <= w.heap.size) :
 Calls Tryz.prog 111 #[.pointer (some ⟨b, 0, none⟩), .string (str s)] w fun e w' => e = .returned (.tuple #[.int .i64 (str s).size, .nilIface]) /\ (∃ v', WrAt B b (.pointer (some ⟨b, 0, none⟩)) v' er (l ++ s) w') /\ Below B w w' /\ Wn b w w' := by
 obtain ⟨i0, hi, hz0, hz1, hz2⟩ := info_parts Tryz.info5;have HC := Lib.hid (wcopyCheck_any B b p v er l w h);have hss := zn s;have HL := Lib.hid hlen;have HS := Lib.hid hss;clear h hlen hss;go_enter Tryz.func111, Tryz.ntmps111;go_wp2_with (go_at_call 162; refine HC.out.mono ?_)
 rintro _ w1 ⟨rfl, ⟨hB, hrow, hown, -⟩, hb1, hw1⟩;have hne := own_ne hown hrow qG;have c1 := (zb hrow 1 _ rfl).1;go_wp2_with (at_builtin; refine Lib.wpList_append_own_string _ rfl _ _ 41 9 rfl B 5 i0 Tryz.underlying41 Tryz.underlying9 hi hz0 hz1 hz2 _ _ _ rfl hown (str s) rfl ?c3 ?c4 ?c5 ?_)
 case c3 => rw [HS.out]; have := HL.out; unfold maxLen; omega
 case c4 => rw [HS.out]; exact HL.out
 case c5 => have := hb1.size; omega
 intro v' w2 hown' hgrow _;have hlt : b < w1.heap.size := (Array.getElem?_eq_some_iff.1 hrow).1;have hrow2 : w2.heap[b]? = some (.cells #[.pointer (some ⟨b, 0, none⟩), v, .int .i64 er] 48 (0, 0)) := (hgrow.block b hlt (fun e => hne e.symm)).trans hrow;have d1 := (zb hrow2 1 _ rfl).1;have f1 := (zb hrow2 1 _ rfl).2;have d0 := (zb hrow2 0 _ rfl).1;obtain ⟨ao, n', cap, rfl⟩ : ∃ ao n' cap, v' = .slice ao n' cap := by
  rcases hown'.2 with ⟨hv, _⟩ | ⟨g, cap, cur, hv, _⟩
  ·exact ⟨_, _, _, hv⟩
  ·exact ⟨_, _, _, hv⟩
 rw [HS.out, show Lib.strCells (str s) = Lib.byteCells s from rfl, <- Lib.byteCells_append, <- List.length_append] at hown';have hne' := own_ne hown' hrow2 qG;have HG := Lib.hid (show Wn b w1 w2 from ⟨fun k cs T fr hk hT hkb => hgrow.block k (Array.getElem?_eq_some_iff.1 hk).1 (fun e => own_ne hown hk hT e.symm)⟩);have HB := Lib.hid (hb1.grown hgrow (by have := hb1.size; omega) (fun k hk => (hown.lt k hk).1));have HO := Lib.hid hown';have HR := Lib.hid hrow2;have HW1 := Lib.hid hw1;clear hgrow hown' hown hrow hrow2 hb1 hw1;go_wp2_with fail;go_ret2;exact ⟨rfl, ⟨_, hB, heap_setCell_same w2 b 1 _ _ _ HR.out, yT HO.out hne', Or.inr rfl⟩, HB.out.setCell (p := ⟨b, 1, none⟩) hB _, (HW1.out.trans HG.out).trans (Wn.set b 1 _ w2)⟩
set_option maxHeartbeats 4000000 in
theorem wstring_any (B b : Nat) (p v : Value) (er : Int) (l : List UInt8) (w : World) (h : WrAt B b p v er l w) (h0 : l ≠ []) :
 Calls Tryz.prog 19 #[.pointer (some ⟨b, 0, none⟩)] w fun e w' => e = .returned (.string (str l)) /\ Below B w w' := by
 obtain ⟨hB, hrow, hown, -⟩ := h;have hl0 : l.length ≠ 0 := by simpa using h0
 obtain ⟨g, cap, cur, rfl, hbg, hg, hnc, hcm, hcs, htake⟩ : ∃ g cap cur, v = .slice (some ⟨g, 0, none⟩) l.length cap /\ B <= g /\ w.heap[g]? = some (.cells cur 5 (0, 0)) /\ l.length <= cap /\ cap <= maxLen /\ cur.size = cap * 1 /\ cur.toList.take (l.length * 1) = Lib.byteCells l := by
  rcases hown.2 with ⟨_, hz⟩ | ⟨g, cap, cur, hv, r⟩
  ·exact absurd hz hl0
  ·exact ⟨g, cap, cur, hv, r⟩
 have c1 : w.drew.cell? ⟨b, 1, none⟩ = some (.slice (some ⟨g, 0, none⟩) l.length cap) := (zb hrow 1 _ rfl).1;have hSD : (Builtin.unsafeSliceData_ #[41] 107 #[.slice (some ⟨g, 0, none⟩) l.length cap]).run Tryz.prog w.drew = .ok (.pointer (some ⟨g, 0, none⟩)) w.drew :=
  Lib.run_unsafeSliceData_row _ _ _ _ _ _ (by omega)
 have hUS : (Builtin.unsafeString_ #[107, 3] 9 #[.pointer (some ⟨g, 0, none⟩), .int .i64 l.length]).run Tryz.prog w.drew = .ok (.string ⟨l.toArray⟩) (w.drew.freeze ⟨g, 0, none⟩ l.length) := by
  refine Lib.run_unsafeString_row w.drew 107 3 9 5 Tryz.underlying107 (by kernel_rfl) g cur.size (by have hg' : w.drew.heap[g]? = some (.cells cur 5 (0, 0)) := hg; simp [World.shape?, hg']) l h0 (by omega) (by unfold maxLen at hcm; omega) ?_;intro j x hx;have := hown.cells (g := g) rfl j (.int .u8 x.toNat) (by simp [Lib.byteCells, hx]);exact this
 clear hrow hown hg hnc hcm hcs htake;go_enter Tryz.func19, Tryz.ntmps19;go_wp2_with fail;go_region
 all_goals go_wp2_with fail
 all_goals go_ret
 all_goals exact ⟨rfl, Lib.below_freeze (Below.drew (Below.refl B w)) (p := ⟨g, 0, none⟩) hbg _⟩
set_option maxHeartbeats 2000000 in
theorem ZE (c : Cm) (u : Value) (w : World) (h : SlN w u c.args) (hw : CmWf c) :
 Calls Tryz.prog 116 #[.agg #[.int .i64 c.client, .int .i64 c.seq, .string (str c.stream), .int .i64 c.rule, u, .int .i64 c.expect]] w fun e w' => e = .returned (.bool (cmdP c)) /\ Below w.heap.size w w' := by
 obtain ⟨n0, n1, s, n3, ar, n5⟩ := c;obtain ⟨hw0, hw1, hw2, hw3, hw4, hw5⟩ := hw;dsimp only at h hw0 hw1 hw2 hw3 hw4 hw5 ⊢;obtain ⟨au, cu, rfl, -⟩ := id h.open;obtain ⟨W0, hW0⟩ : ∃ W0, w.alloc (.cells #[.int .i64 n0, .int .i64 n1, .string (str s), .int .i64 n3, .slice au ar.length cu, .int .i64 n5] 59) = W0 := ⟨_, rfl⟩;have hB0 : Below w.heap.size w W0 := by rw [<- hW0]; exact zf _ _
 have k0 : W0.cell? ⟨w.heap.size, 0, none⟩ = some (.int .i64 n0) := by rw [<- hW0]; exact ze w [_, _, _, _, _, _] _ 0 _ rfl
 have k1 : W0.cell? ⟨w.heap.size, 1, none⟩ = some (.int .i64 n1) := by rw [<- hW0]; exact ze w [_, _, _, _, _, _] _ 1 _ rfl
 have k2 : W0.cell? ⟨w.heap.size, 2, none⟩ = some (.string (str s)) := by rw [<- hW0]; exact ze w [_, _, _, _, _, _] _ 2 _ rfl
 have k3 : W0.cell? ⟨w.heap.size, 3, none⟩ = some (.int .i64 n3) := by rw [<- hW0]; exact ze w [_, _, _, _, _, _] _ 3 _ rfl
 have k4 : W0.cell? ⟨w.heap.size, 4, none⟩ = some (.slice au ar.length cu) := by rw [<- hW0]; exact ze w [_, _, _, _, _, _] _ 4 _ rfl
 have k5 : W0.cell? ⟨w.heap.size, 5, none⟩ = some (.int .i64 n5) := by rw [<- hW0]; exact ze w [_, _, _, _, _, _] _ 5 _ rfl
 have H0 := Lib.hid (fun W => mayHead_any n0 n1 s W hw2);have H1 := Lib.hid (fun W => zG n3 0 11 W);have H2 := Lib.hid (fun W (hb : Below w.heap.size w W) => uB ar 4 4 rfl _ W (h.below hb) (by have := hw4.2; omega));have H3 := Lib.hid (fun W => zG n5 (-1) 1099511627776 W);have hp : cmdP ⟨n0, n1, s, n3, ar, n5⟩ = (headP n0 n1 s && (inn n3 0 11 && (valsP ar 4 && inn n5 (-1) 1099511627776))) := rfl;rw [hp];obtain ⟨b0, e0⟩ : ∃ b, headP n0 n1 s = b := ⟨_, rfl⟩;obtain ⟨b1, e1⟩ : ∃ b, inn n3 0 11 = b := ⟨_, rfl⟩;obtain ⟨b2, e2⟩ : ∃ b, valsP ar 4 = b := ⟨_, rfl⟩;obtain ⟨b3, e3⟩ : ∃ b, inn n5 (-1) 1099511627776 = b := ⟨_, rfl⟩;rw [e0] at H0; rw [e1] at H1; rw [e2] at H2; rw [e3] at H3
 rw [e0, e1, e2, e3];have HB0 := Lib.hid hB0;clear e0 e1 e2 e3 hp hw0 hw1 hw2 hw3 hw4 hw5 h hB0;go_enter Tryz.func116, Tryz.ntmps116;go_wp2_with fail;refine (H0.out _).mono ?_;rintro _ w1 ⟨rfl, hb1⟩;have k3 := za hb1 k3;have k4 := za hb1 k4;have k5 := za hb1 k5;have HB1 := Lib.hid (HB0.out.trans (hb1.mono HB0.out.size));clear hb1;try clear hW0
 cases b0 with
 | false =>
  go_wp2_with fail;go_ret;exact ⟨rfl, HB1.out⟩
 | true =>
  go_wp2_with fail;refine (H1.out _).mono ?_;rintro _ w2 ⟨rfl, rfl⟩;cases b1 with
  | false =>
   go_wp2_with fail;go_ret;exact ⟨rfl, HB1.out⟩
  | true =>
   go_wp2_with fail;refine (H2.out _ HB1.out).mono ?_;rintro _ w3 ⟨rfl, hb3⟩;have k3 := za hb3 k3;have k4 := za hb3 k4;have k5 := za hb3 k5;have HB3 := Lib.hid (HB1.out.trans (hb3.mono HB1.out.size));clear hb3;cases b2 with
   | false =>
    go_wp2_with fail;go_ret;exact ⟨rfl, HB3.out⟩
   | true =>
    go_wp2_with fail;refine (H3.out _).mono ?_;rintro _ w4 ⟨rfl, rfl⟩;go_wp2_with fail;go_ret;exact ⟨rfl, HB3.out⟩
set_option maxHeartbeats 4000000 in
theorem lays_V (l : List Vd) (HM : ∀ (W : World) (v : Value) (x : Vd), x ∈ l -> (v = .agg #[.int .i64 x.seq, .int .i64 x.code]) -> Calls Tryz.prog 188 #[v] W fun e w' => e = .returned (.string (str (layVd x))) /\ Below W.heap.size W w')
 (hb : ∀ x ∈ l, (layVd x).length <= 8000) (v : Value) (w : World) (h : VdsIs w v l) (hl : l.length <= 256) :
 Calls Tryz.prog 187 #[v, .func (.func 188) #[] #[]] w fun e w' => e = .returned (.string (str (num (l.length : Int) ++ l.flatMap layVd))) /\ Below w.heap.size w w' := by
 obtain ⟨a, cap, rfl, hc⟩ := h.open;obtain ⟨N, hN⟩ : ∃ N, l.length = N := ⟨_, rfl⟩;have HC := Lib.hid hc;have HN := Lib.hid hN;have HM := Lib.hid HM;have HBD := Lib.hid hb;rw [hN] at hl ⊢;have H0 := Lib.hid (fun W => zR (N : Int) W ⟨by omega, by omega⟩);have hz := zi (N : Int) ⟨by omega, by omega⟩;have HX0 := Lib.hid (show num (N : Int) = num (N : Int) from rfl);generalize num (N : Int) = X0 at *
 have HBN := Lib.hid (yV w 46 5);clear hc h hN hb HX0;go_enter Tryz.func187, Tryz.ntmps187;go_wp2_with fail;refine (H0.out _).mono ?_;rintro _ w1 ⟨rfl, hb1⟩;have hbl1 := zQ HBN.out hb1;have h1 : Below w.heap.size w w1 := ((Below.refl _ _).alloc (Nat.le_refl _) _).trans (hb1.mono (by simp));clear hb1 HBN;go_wp2_with fail;refine (S.yo w.heap.size w.heap.size [] _ _ hbl1 (by rw [zn, List.length_nil]; omega) h1.size).mono ?_;rintro _ w2 ⟨rfl, hbl2, hb2⟩;rw [List.nil_append, show Lib.strCells (str X0) = Lib.byteCells X0 from rfl] at hbl2;have HBL2 := Lib.hid (Or.inr hbl2 : Lib.IsBuilder 46 5 w.heap.size w.heap.size (Lib.byteCells X0) w2);have h2 : Below w.heap.size w w2 := h1.trans hb2;clear h1 hb2 hbl1 hbl2;go_wp2_with fail;go_loopw [14] (fun i wr => ∃ K : Nat, K <= N /\ i = .int .i64 (K : Int) /\
  Hid (Lib.IsBuilder 46 5 w.heap.size w.heap.size (Lib.byteCells (X0 ++ (l.take K).flatMap layVd)) wr) /\ Hid (Below w.heap.size w2 wr)) (fun i _ => N - (intOf i).toNat)
 case atStart => exact ⟨0, Nat.zero_le _, rfl, Lib.hid (by rw [List.take_zero, List.flatMap_nil, List.append_nil]; exact HBL2.out), Lib.hid (Below.refl _ _)⟩
 case round =>
  obtain ⟨K, hK, rfl, HBL, HBE⟩ := hrel;by_cases hlt : K < N
  ·obtain ⟨x, hx⟩ : ∃ x, l[K]? = some x := ⟨_, List.getElem?_eq_getElem (by rw [HN.out]; exact hlt)⟩
   have hbw : Below w.heap.size w wr := h2.trans HBE.out;obtain ⟨b, off, ea, cs, -, rfl, hcell⟩ := HC.out K x hx;subst ea;have k0 : wr.cell? ⟨b, off + K * 2, none⟩ = some (.int .i64 x.seq) := za hbw (hcell 0 _ rfl);have k1 : wr.cell? ⟨b, off + K * 2 + 1, none⟩ = some (.int .i64 x.code) := za hbw (hcell 1 _ rfl);have hltI : (K : Int) < (N : Int) := by omega
   have hk0 : 0 <= (K : Int) := by omega
   have hw1 : IntKind.i64.wrap ((K : Int) + 1) = (K : Int) + 1 := IntWalk.i64_in _ (by omega);have hfl := zy layVd 8000 (l.take K) fun y hy => HBD.out y (List.mem_of_mem_take hy)
   rw [List.length_take] at hfl;have hxl := HBD.out x (List.mem_of_getElem? hx);have HD := Lib.hid (show (l.take (K + 1)).flatMap layVd = (l.take K).flatMap layVd ++ layVd x from zV layVd hx);have HV := Lib.hid (fun W => HM.out W _ x (List.mem_of_getElem? hx) rfl);clear hcell hx hbw;obtain ⟨W3, hW3⟩ : ∃ W3, wr.alloc (.cells #[.int .i64 x.seq, .int .i64 x.code] 82) = W3 := ⟨_, rfl⟩;have hB3 : Below wr.heap.size wr W3 := by rw [<- hW3]; exact zf _ _
   have HB3 := Lib.hid hB3;clear hB3;have m0 : W3.cell? ⟨wr.heap.size, 0, none⟩ = some (.int .i64 x.seq) := by rw [<- hW3]; exact ze wr [_, _] _ 0 _ rfl
   have m1 : W3.cell? ⟨wr.heap.size, 1, none⟩ = some (.int .i64 x.code) := by rw [<- hW3]; exact ze wr [_, _] _ 1 _ rfl
   go_wp2_with fail;refine (HV.out _).mono ?_;rintro _ w3 ⟨rfl, hb3'⟩;have hb3 : Below wr.heap.size wr w3 := HB3.out.trans (hb3'.mono HB3.out.size);have hbl3 := zQ HBL.out hb3;have h3 : Below w.heap.size w2 w3 := HBE.out.trans (hb3.mono (Nat.le_trans h2.size HBE.out.size));go_wp2_with fail;refine (S.yo w.heap.size w.heap.size _ _ _ hbl3 (by rw [zn, Lib.byteCells_length, List.length_append]; omega) (Nat.le_trans h2.size h3.size)).mono ?_;rintro _ w4 ⟨rfl, hbl4, hb4⟩;rw [show Lib.strCells (str (layVd x)) = Lib.byteCells (layVd x) from rfl, <- Lib.byteCells_append, List.append_assoc] at hbl4;have h4 : Below w.heap.size w2 w4 := h3.trans hb4;have HBL4 := Lib.hid hbl4;have HB4 := Lib.hid h4;clear hbl3 hbl4 h3 h4 hb4 hb3;go_wp2_with fail;go_roundw
   case rel => exact ⟨K + 1, by omega, by go_num, Lib.hid (Or.inr (by rw [HD.out]; exact HBL4.out)), HB4⟩
   case measure => simp [intOf]; omega
  ·have hltI : ¬ (K : Int) < (N : Int) := by omega
   have hd : X0 ++ (l.take K).flatMap layVd = X0 ++ l.flatMap layVd := by rw [List.take_of_length_le (by rw [HN.out]; omega)]
   have hbl := HBL.out;rw [hd] at hbl;have HBL5 := Lib.hid hbl;have hbw : Below w.heap.size w wr := h2.trans HBE.out;clear hbl hd;go_wp2_with (go_at_call 19; refine (S.qj w.heap.size w.heap.size _ _ HBL5.out hbw.size).mono ?_; rintro _ w5 ⟨rfl, hb5⟩; have HB5 := Lib.hid hb5; clear hb5)
   go_ret;exact ⟨rfl, hbw.trans HB5.out⟩
set_option maxHeartbeats 4000000 in
theorem lays_E (l : List Ev) (HM : ∀ (W : World) (v : Value) (x : Ev), x ∈ l -> (∃ u, v = .agg #[.int .i64 x.pos, u] /\ SlN W u x.vars) -> Calls Tryz.prog 213 #[v] W fun e w' => e = .returned (.string (str (layEv x))) /\ Below W.heap.size W w')
 (hb : ∀ x ∈ l, (layEv x).length <= 8000) (v : Value) (w : World) (h : EvsIs w v l) (hl : l.length <= 256) :
 Calls Tryz.prog 212 #[v, .func (.func 213) #[] #[]] w fun e w' => e = .returned (.string (str (num (l.length : Int) ++ l.flatMap layEv))) /\ Below w.heap.size w w' := by
 obtain ⟨a, cap, rfl, hc⟩ := h.open;obtain ⟨N, hN⟩ : ∃ N, l.length = N := ⟨_, rfl⟩;have HC := Lib.hid hc;have HN := Lib.hid hN;have HM := Lib.hid HM;have HBD := Lib.hid hb;rw [hN] at hl ⊢;have H0 := Lib.hid (fun W => zR (N : Int) W ⟨by omega, by omega⟩);have hz := zi (N : Int) ⟨by omega, by omega⟩;have HX0 := Lib.hid (show num (N : Int) = num (N : Int) from rfl);generalize num (N : Int) = X0 at *
 have HBN := Lib.hid (yV w 46 5);clear hc h hN hb HX0;go_enter Tryz.func212, Tryz.ntmps212;go_wp2_with fail;refine (H0.out _).mono ?_;rintro _ w1 ⟨rfl, hb1⟩;have hbl1 := zQ HBN.out hb1;have h1 : Below w.heap.size w w1 := ((Below.refl _ _).alloc (Nat.le_refl _) _).trans (hb1.mono (by simp));clear hb1 HBN;go_wp2_with fail;refine (S.yo w.heap.size w.heap.size [] _ _ hbl1 (by rw [zn, List.length_nil]; omega) h1.size).mono ?_;rintro _ w2 ⟨rfl, hbl2, hb2⟩;rw [List.nil_append, show Lib.strCells (str X0) = Lib.byteCells X0 from rfl] at hbl2;have HBL2 := Lib.hid (Or.inr hbl2 : Lib.IsBuilder 46 5 w.heap.size w.heap.size (Lib.byteCells X0) w2);have h2 : Below w.heap.size w w2 := h1.trans hb2;clear h1 hb2 hbl1 hbl2;go_wp2_with fail;go_loopw [14] (fun i wr => ∃ K : Nat, K <= N /\ i = .int .i64 (K : Int) /\
  Hid (Lib.IsBuilder 46 5 w.heap.size w.heap.size (Lib.byteCells (X0 ++ (l.take K).flatMap layEv)) wr) /\ Hid (Below w.heap.size w2 wr)) (fun i _ => N - (intOf i).toNat)
 case atStart => exact ⟨0, Nat.zero_le _, rfl, Lib.hid (by rw [List.take_zero, List.flatMap_nil, List.append_nil]; exact HBL2.out), Lib.hid (Below.refl _ _)⟩
 case round =>
  obtain ⟨K, hK, rfl, HBL, HBE⟩ := hrel;by_cases hlt : K < N
  ·obtain ⟨x, hx⟩ : ∃ x, l[K]? = some x := ⟨_, List.getElem?_eq_getElem (by rw [HN.out]; exact hlt)⟩
   have hbw : Below w.heap.size w wr := h2.trans HBE.out;obtain ⟨b, off, ea, cs, -, ⟨u, rfl, hu⟩, hcell⟩ := HC.out K x hx;subst ea;obtain ⟨au, cu, rfl, -⟩ := id hu.open;have k0 : wr.cell? ⟨b, off + K * 2, none⟩ = some (.int .i64 x.pos) := za hbw (hcell 0 _ rfl);have k1 : wr.cell? ⟨b, off + K * 2 + 1, none⟩ = some (.slice au x.vars.length cu) := za hbw (hcell 1 _ rfl);have hltI : (K : Int) < (N : Int) := by omega
   have hk0 : 0 <= (K : Int) := by omega
   have hw1 : IntKind.i64.wrap ((K : Int) + 1) = (K : Int) + 1 := IntWalk.i64_in _ (by omega);have hfl := zy layEv 8000 (l.take K) fun y hy => HBD.out y (List.mem_of_mem_take hy)
   rw [List.length_take] at hfl;have hxl := HBD.out x (List.mem_of_getElem? hx);have HD := Lib.hid (show (l.take (K + 1)).flatMap layEv = (l.take K).flatMap layEv ++ layEv x from zV layEv hx);have HV := Lib.hid (fun W (hb : Below w.heap.size w W) => HM.out W _ x (List.mem_of_getElem? hx) ⟨_, rfl, hu.below hb⟩);clear hcell hx hbw hu;obtain ⟨W3, hW3⟩ : ∃ W3, wr.alloc (.cells #[.int .i64 x.pos, .slice au x.vars.length cu] 120) = W3 := ⟨_, rfl⟩;have hB3 : Below wr.heap.size wr W3 := by rw [<- hW3]; exact zf _ _
   have HB3 := Lib.hid hB3;clear hB3;have m0 : W3.cell? ⟨wr.heap.size, 0, none⟩ = some (.int .i64 x.pos) := by rw [<- hW3]; exact ze wr [_, _] _ 0 _ rfl
   have m1 : W3.cell? ⟨wr.heap.size, 1, none⟩ = some (.slice au x.vars.length cu) := by rw [<- hW3]; exact ze wr [_, _] _ 1 _ rfl
   go_wp2_with fail;refine (HV.out _ ((h2.trans HBE.out).trans (HB3.out.mono (Nat.le_trans h2.size HBE.out.size)))).mono ?_;rintro _ w3 ⟨rfl, hb3'⟩;have hb3 : Below wr.heap.size wr w3 := HB3.out.trans (hb3'.mono HB3.out.size);have hbl3 := zQ HBL.out hb3;have h3 : Below w.heap.size w2 w3 := HBE.out.trans (hb3.mono (Nat.le_trans h2.size HBE.out.size));go_wp2_with fail;refine (S.yo w.heap.size w.heap.size _ _ _ hbl3 (by rw [zn, Lib.byteCells_length, List.length_append]; omega) (Nat.le_trans h2.size h3.size)).mono ?_;rintro _ w4 ⟨rfl, hbl4, hb4⟩;rw [show Lib.strCells (str (layEv x)) = Lib.byteCells (layEv x) from rfl, <- Lib.byteCells_append, List.append_assoc] at hbl4;have h4 : Below w.heap.size w2 w4 := h3.trans hb4;have HBL4 := Lib.hid hbl4;have HB4 := Lib.hid h4;clear hbl3 hbl4 h3 h4 hb4 hb3;go_wp2_with fail;go_roundw
   case rel => exact ⟨K + 1, by omega, by go_num, Lib.hid (Or.inr (by rw [HD.out]; exact HBL4.out)), HB4⟩
   case measure => simp [intOf]; omega
  ·have hltI : ¬ (K : Int) < (N : Int) := by omega
   have hd : X0 ++ (l.take K).flatMap layEv = X0 ++ l.flatMap layEv := by rw [List.take_of_length_le (by rw [HN.out]; omega)]
   have hbl := HBL.out;rw [hd] at hbl;have HBL5 := Lib.hid hbl;have hbw : Below w.heap.size w wr := h2.trans HBE.out;clear hbl hd;go_wp2_with (go_at_call 19; refine (S.qj w.heap.size w.heap.size _ _ HBL5.out hbw.size).mono ?_; rintro _ w5 ⟨rfl, hb5⟩; have HB5 := Lib.hid hb5; clear hb5)
   go_ret;exact ⟨rfl, hbw.trans HB5.out⟩
set_option maxHeartbeats 4000000 in
theorem lays_T (l : List It) (HM : ∀ (W : World) (v : Value) (x : It), x ∈ l -> (∃ u, v = .agg #[.string (str x.stream), .int .i64 x.st.pos, .int .i64 x.st.ver, u] /\ SlN W u x.st.vars) -> Calls Tryz.prog 181 #[v] W fun e w' => e = .returned (.string (str (layIt x))) /\ Below W.heap.size W w')
 (hb : ∀ x ∈ l, (layIt x).length <= 8000) (v : Value) (w : World) (h : ItsIs w v l) (hl : l.length <= 256) :
 Calls Tryz.prog 180 #[v, .func (.func 181) #[] #[]] w fun e w' => e = .returned (.string (str (num (l.length : Int) ++ l.flatMap layIt))) /\ Below w.heap.size w w' := by
 obtain ⟨a, cap, rfl, hc⟩ := h.open;obtain ⟨N, hN⟩ : ∃ N, l.length = N := ⟨_, rfl⟩;have HC := Lib.hid hc;have HN := Lib.hid hN;have HM := Lib.hid HM;have HBD := Lib.hid hb;rw [hN] at hl ⊢;have H0 := Lib.hid (fun W => zR (N : Int) W ⟨by omega, by omega⟩);have hz := zi (N : Int) ⟨by omega, by omega⟩;have HX0 := Lib.hid (show num (N : Int) = num (N : Int) from rfl);generalize num (N : Int) = X0 at *
 have HBN := Lib.hid (yV w 46 5);clear hc h hN hb HX0;go_enter Tryz.func180, Tryz.ntmps180;go_wp2_with fail;refine (H0.out _).mono ?_;rintro _ w1 ⟨rfl, hb1⟩;have hbl1 := zQ HBN.out hb1;have h1 : Below w.heap.size w w1 := ((Below.refl _ _).alloc (Nat.le_refl _) _).trans (hb1.mono (by simp));clear hb1 HBN;go_wp2_with fail;refine (S.yo w.heap.size w.heap.size [] _ _ hbl1 (by rw [zn, List.length_nil]; omega) h1.size).mono ?_;rintro _ w2 ⟨rfl, hbl2, hb2⟩;rw [List.nil_append, show Lib.strCells (str X0) = Lib.byteCells X0 from rfl] at hbl2;have HBL2 := Lib.hid (Or.inr hbl2 : Lib.IsBuilder 46 5 w.heap.size w.heap.size (Lib.byteCells X0) w2);have h2 : Below w.heap.size w w2 := h1.trans hb2;clear h1 hb2 hbl1 hbl2;go_wp2_with fail;go_loopw [14] (fun i wr => ∃ K : Nat, K <= N /\ i = .int .i64 (K : Int) /\
  Hid (Lib.IsBuilder 46 5 w.heap.size w.heap.size (Lib.byteCells (X0 ++ (l.take K).flatMap layIt)) wr) /\ Hid (Below w.heap.size w2 wr)) (fun i _ => N - (intOf i).toNat)
 case atStart => exact ⟨0, Nat.zero_le _, rfl, Lib.hid (by rw [List.take_zero, List.flatMap_nil, List.append_nil]; exact HBL2.out), Lib.hid (Below.refl _ _)⟩
 case round =>
  obtain ⟨K, hK, rfl, HBL, HBE⟩ := hrel;by_cases hlt : K < N
  ·obtain ⟨x, hx⟩ : ∃ x, l[K]? = some x := ⟨_, List.getElem?_eq_getElem (by rw [HN.out]; exact hlt)⟩
   have hbw : Below w.heap.size w wr := h2.trans HBE.out;obtain ⟨b, off, ea, cs, -, ⟨u, rfl, hu⟩, hcell⟩ := HC.out K x hx;subst ea;obtain ⟨au, cu, rfl, -⟩ := id hu.open;have k0 : wr.cell? ⟨b, off + K * 4, none⟩ = some (.string (str x.stream)) := za hbw (hcell 0 _ rfl);have k1 : wr.cell? ⟨b, off + K * 4 + 1, none⟩ = some (.int .i64 x.st.pos) := za hbw (hcell 1 _ rfl);have k2 : wr.cell? ⟨b, off + K * 4 + 2, none⟩ = some (.int .i64 x.st.ver) := za hbw (hcell 2 _ rfl);have k3 : wr.cell? ⟨b, off + K * 4 + 3, none⟩ = some (.slice au x.st.vars.length cu) := za hbw (hcell 3 _ rfl);have hltI : (K : Int) < (N : Int) := by omega
   have hk0 : 0 <= (K : Int) := by omega
   have hw1 : IntKind.i64.wrap ((K : Int) + 1) = (K : Int) + 1 := IntWalk.i64_in _ (by omega);have hfl := zy layIt 8000 (l.take K) fun y hy => HBD.out y (List.mem_of_mem_take hy)
   rw [List.length_take] at hfl;have hxl := HBD.out x (List.mem_of_getElem? hx);have HD := Lib.hid (show (l.take (K + 1)).flatMap layIt = (l.take K).flatMap layIt ++ layIt x from zV layIt hx);have HV := Lib.hid (fun W (hb : Below w.heap.size w W) => HM.out W _ x (List.mem_of_getElem? hx) ⟨_, rfl, hu.below hb⟩);clear hcell hx hbw hu;obtain ⟨W3, hW3⟩ : ∃ W3, wr.alloc (.cells #[.string (str x.stream), .int .i64 x.st.pos, .int .i64 x.st.ver, .slice au x.st.vars.length cu] 91) = W3 := ⟨_, rfl⟩;have hB3 : Below wr.heap.size wr W3 := by rw [<- hW3]; exact zf _ _
   have HB3 := Lib.hid hB3;clear hB3;have m0 : W3.cell? ⟨wr.heap.size, 0, none⟩ = some (.string (str x.stream)) := by rw [<- hW3]; exact ze wr [_, _, _, _] _ 0 _ rfl
   have m1 : W3.cell? ⟨wr.heap.size, 1, none⟩ = some (.int .i64 x.st.pos) := by rw [<- hW3]; exact ze wr [_, _, _, _] _ 1 _ rfl
   have m2 : W3.cell? ⟨wr.heap.size, 2, none⟩ = some (.int .i64 x.st.ver) := by rw [<- hW3]; exact ze wr [_, _, _, _] _ 2 _ rfl
   have m3 : W3.cell? ⟨wr.heap.size, 3, none⟩ = some (.slice au x.st.vars.length cu) := by rw [<- hW3]; exact ze wr [_, _, _, _] _ 3 _ rfl
   go_wp2_with fail;refine (HV.out _ ((h2.trans HBE.out).trans (HB3.out.mono (Nat.le_trans h2.size HBE.out.size)))).mono ?_;rintro _ w3 ⟨rfl, hb3'⟩;have hb3 : Below wr.heap.size wr w3 := HB3.out.trans (hb3'.mono HB3.out.size);have hbl3 := zQ HBL.out hb3;have h3 : Below w.heap.size w2 w3 := HBE.out.trans (hb3.mono (Nat.le_trans h2.size HBE.out.size));go_wp2_with fail;refine (S.yo w.heap.size w.heap.size _ _ _ hbl3 (by rw [zn, Lib.byteCells_length, List.length_append]; omega) (Nat.le_trans h2.size h3.size)).mono ?_;rintro _ w4 ⟨rfl, hbl4, hb4⟩;rw [show Lib.strCells (str (layIt x)) = Lib.byteCells (layIt x) from rfl, <- Lib.byteCells_append, List.append_assoc] at hbl4;have h4 : Below w.heap.size w2 w4 := h3.trans hb4;have HBL4 := Lib.hid hbl4;have HB4 := Lib.hid h4;clear hbl3 hbl4 h3 h4 hb4 hb3;go_wp2_with fail;go_roundw
   case rel => exact ⟨K + 1, by omega, by go_num, Lib.hid (Or.inr (by rw [HD.out]; exact HBL4.out)), HB4⟩
   case measure => simp [intOf]; omega
  ·have hltI : ¬ (K : Int) < (N : Int) := by omega
   have hd : X0 ++ (l.take K).flatMap layIt = X0 ++ l.flatMap layIt := by rw [List.take_of_length_le (by rw [HN.out]; omega)]
   have hbl := HBL.out;rw [hd] at hbl;have HBL5 := Lib.hid hbl;have hbw : Below w.heap.size w wr := h2.trans HBE.out;clear hbl hd;go_wp2_with (go_at_call 19; refine (S.qj w.heap.size w.heap.size _ _ HBL5.out hbw.size).mono ?_; rintro _ w5 ⟨rfl, hb5⟩; have HB5 := Lib.hid hb5; clear hb5)
   go_ret;exact ⟨rfl, hbw.trans HB5.out⟩
theorem playVerdicts_any (l : List Vd) (v : Value) (w : World) (h : VdsIs w v l) (hx : ∀ x ∈ l, VdWf x) (hl : l.length <= 256) : Calls Tryz.prog 127 #[v] w fun e w' => e = .returned (.string (str (layVds l))) /\ Below w.heap.size w w' := by
 have H := Lib.hid (lays_V l (fun W v x hm hv => by subst hv; exact layVd1_any x W (hx x hm)) (fun x hm => by have := playVd_len x (hx x hm); omega) v w h hl);have hd : layVds l = num (l.length : Int) ++ l.flatMap layVd := rfl;rw [hd];generalize num (l.length : Int) ++ l.flatMap layVd = R at H ⊢
 obtain ⟨a, cap, rfl, -⟩ := h.open;clear h hx hd;go_enter Tryz.func127, Tryz.ntmps127;go_wp2_with (go_at_call 187; refine H.out.mono ?_; rintro _ w1 ⟨rfl, hb1⟩; have HB1 := Lib.hid hb1; clear hb1)
 go_ret;exact ⟨rfl, HB1.out⟩
theorem playEvents_any (l : List Ev) (v : Value) (w : World) (h : EvsIs w v l) (hx : ∀ x ∈ l, EvWf x /\ x.vars.length <= 256) (hl : l.length <= 256) : Calls Tryz.prog 173 #[v] w fun e w' => e = .returned (.string (str (layEvs l))) /\ Below w.heap.size w w' := by
 have H := Lib.hid (lays_E l (fun W v x hm hv => by obtain ⟨u, rfl, hu⟩ := hv; exact layEv1_any x u W hu (hx x hm).1 (hx x hm).2) (fun x hm => by have := layEv_len8 x (hx x hm).1 (hx x hm).2; omega) v w h hl);have hd : layEvs l = num (l.length : Int) ++ l.flatMap layEv := rfl;rw [hd];generalize num (l.length : Int) ++ l.flatMap layEv = R at H ⊢
 obtain ⟨a, cap, rfl, -⟩ := h.open;clear h hx hd;go_enter Tryz.func173, Tryz.ntmps173;go_wp2_with (go_at_call 212; refine H.out.mono ?_; rintro _ w1 ⟨rfl, hb1⟩; have HB1 := Lib.hid hb1; clear hb1)
 go_ret;exact ⟨rfl, HB1.out⟩
theorem playItems_any (l : List It) (v : Value) (w : World) (h : ItsIs w v l) (hx : ∀ x ∈ l, StWf x.st /\ x.stream.length <= 4096 /\ x.st.vars.length <= 256) (hl : l.length <= 256) : Calls Tryz.prog 124 #[v] w fun e w' => e = .returned (.string (str (layItems l))) /\ Below w.heap.size w w' := by
 have H := Lib.hid (lays_T l (fun W v x hm hv => by obtain ⟨u, rfl, hu⟩ := hv; exact layIt1_any x u W hu (hx x hm).1 (hx x hm).2.1 (hx x hm).2.2) (fun x hm => by exact layIt_len8 x (hx x hm).1 (hx x hm).2.1 (hx x hm).2.2) v w h hl);have hd : layItems l = num (l.length : Int) ++ l.flatMap layIt := rfl;rw [hd];generalize num (l.length : Int) ++ l.flatMap layIt = R at H ⊢
 obtain ⟨a, cap, rfl, -⟩ := h.open;clear h hx hd;go_enter Tryz.func124, Tryz.ntmps124;go_wp2_with (go_at_call 180; refine H.out.mono ?_; rintro _ w1 ⟨rfl, hb1⟩; have HB1 := Lib.hid hb1; clear hb1)
 go_ret;exact ⟨rfl, HB1.out⟩
end Go.Proofs.YtaidhoepnefcpaaGreat.C10
