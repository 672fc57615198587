/-
  Layer 11, the document's answers: which frames may be (the words; the kinds that hold no list of commands or entries).
-/
import Derived.Test.YtaidhoepnefcpaaGreatBP11RefB
namespace Go.Proofs.YtaidhoepnefcpaaGreat.C10
open Go Go.RowKit Go.Proofs B K P8
set_option linter.unusedVariables false
set_option maxRecDepth 100000
def cmOne (c : Int) (l : List Cm) (k : Nat) (x : Cm) : Bool := cmdP x && (decide (x.client = c) && (decide (k = 0) || match l[k - 1]? with | some y => decide (y.seq < x.seq) | none => true))
def cmGo (c : Int) (l : List Cm) : Nat -> List Cm -> Bool
 | _, [] => true
 | k, x :: xs => cmOne c l k x && cmGo c l (k + 1) xs
def enOne (s d : Int) (l : List En) (k : Nat) (x : En) : Bool := enP x && (decide (s <= x.index) && (decide (x.index < d) && (decide (k = 0) || match l[k - 1]? with | some y => decide (y.index < x.index) | none => true)))
def enGo (s d : Int) (l : List En) : Nat -> List En -> Bool
 | _, [] => true
 | k, x :: xs => enOne s d l k x && enGo s d l (k + 1) xs
theorem cmGo_drop {c : Int} {l m : List Cm} {x : Cm} {K : Nat} (h : m[K]? = some x) : cmGo c l K (m.drop K) = (cmOne c l K x && cmGo c l (K + 1) (m.drop (K + 1))) := by
 obtain ⟨hlt, rfl⟩ := List.getElem?_eq_some_iff.1 h;rw [List.drop_eq_getElem_cons hlt, cmGo]
theorem enGo_drop {s d : Int} {l m : List En} {x : En} {K : Nat} (h : m[K]? = some x) : enGo s d l K (m.drop K) = (enOne s d l K x && enGo s d l (K + 1) (m.drop (K + 1))) := by
 obtain ⟨hlt, rfl⟩ := List.getElem?_eq_some_iff.1 h;rw [List.drop_eq_getElem_cons hlt, enGo]
def kindP (f : Fr) : Bool :=
 if f.kind = 1 then decide (0 < f.dst) && filtP f.filter
 else if f.kind = 2 then cmGo f.client f.cmds 0 f.cmds && (decide (f.src = 0) && (decide (f.dst = 0) && (decide (0 < f.cmds.length) && decide (f.cmds.length <= 8))))
 else if f.kind = 3 then decide (f.src = 0)
 else if f.kind = 4 then enGo f.src f.dst f.entries 0 f.entries && (decide (f.src <= f.dst) && decide (f.entries.length <= 16))
 else decide (f.src = 0) && (itemsP f.items && vdsP f.verdicts)
def rightP (f : Fr) : Bool :=
 inn f.kind 1 5 && (inn f.client 0 5 && (inn f.epoch 1 1099511627776 && (noneP f.kind f.filter.length f.cmds.length f.entries.length f.items.length f.verdicts.length &&
  (inn f.src 0 1099511627776 && (inn f.dst 0 1099511627776 && kindP f)))))
def EnWf (e : En) : Prop := I64 e.index /\ TxWf e.stream /\ EvsWf e.events /\ I64 e.seq /\ I64 e.code
structure FrWf (f : Fr) : Prop where
 kind : I64 f.kind
 client : I64 f.client
 epoch : I64 f.epoch
 src : I64 f.src
 dst : I64 f.dst
 filter : FlWf f.filter
 cmds : (∀ x ∈ f.cmds, CmWf x) /\ f.cmds.length <= 17592186044416
 entries : (∀ x ∈ f.entries, EnWf x) /\ f.entries.length <= 17592186044416
 items : ItsWf f.items
 verdicts : VdsWf f.verdicts
set_option maxHeartbeats 16000000 in
theorem right0_any (L : Low) (n0 n1 n2 n3 n4 : Int) (fl : List (List UInt8)) (cl : List Cm) (el : List En) (il : List It) (vl : List Vd) (v5 v6 v7 v8 v9 : Value) (w : World) (h : FrIs w (⟨n0, n1, n2, n3, n4, fl, cl, el, il, vl⟩ : Fr) v5 v6 v7 v8 v9) (hw : FrWf (⟨n0, n1, n2, n3, n4, fl, cl, el, il, vl⟩ : Fr)) (hk : inn n0 1 5 = false) :
 Calls Tryz.prog 10 #[.agg #[.int .i64 n0, .int .i64 n1, .int .i64 n2, .int .i64 n3, .int .i64 n4, v5, v6, v7, v8, v9]] w fun z w' => z = .returned (.bool (rightP (⟨n0, n1, n2, n3, n4, fl, cl, el, il, vl⟩ : Fr))) /\ Below w.heap.size w w' := by
 obtain ⟨h5, h6, h7, h8, h9⟩ := h;dsimp only at h5 h6 h7 h8 h9;obtain ⟨a5, c5, rfl, hz5⟩ := h5.open;obtain ⟨a6, c6, rfl, hz6⟩ := h6.open;obtain ⟨a7, c7, rfl, hz7⟩ := h7.open;obtain ⟨a8, c8, rfl, hz8⟩ := h8.open;obtain ⟨a9, c9, rfl, hz9⟩ := h9.open;obtain ⟨hw0, hw1, hw2, hw3, hw4, hw5, hw6, hw7, hw8, hw9⟩ := hw;dsimp only at hw0 hw1 hw2 hw3 hw4 hw5 hw6 hw7 hw8 hw9;show Calls _ _ _ w fun z w' => z = .returned (.bool (inn (n0 : Int) 1 5 && (inn n1 0 5 && (inn n2 1 1099511627776 && (noneP (n0 : Int) fl.length cl.length el.length il.length vl.length && (inn n3 0 1099511627776 && (inn n4 0 1099511627776 && kindP (⟨n0, n1, n2, n3, n4, fl, cl, el, il, vl⟩ : Fr)))))))) /\ _
 rw [hk, Bool.false_and];have H0 := Lib.hid (fun (W : World) => zt n0 1 5 W);rw [hk] at H0;obtain ⟨N5, hN5⟩ : ∃ N, fl.length = N := ⟨_, rfl⟩;rw [hN5];have HN5 := Lib.hid hN5;clear hN5;obtain ⟨N6, hN6⟩ : ∃ N, cl.length = N := ⟨_, rfl⟩;rw [hN6];have HN6 := Lib.hid hN6;clear hN6;obtain ⟨N7, hN7⟩ : ∃ N, el.length = N := ⟨_, rfl⟩;rw [hN7];have HN7 := Lib.hid hN7;clear hN7;obtain ⟨N8, hN8⟩ : ∃ N, il.length = N := ⟨_, rfl⟩;rw [hN8];have HN8 := Lib.hid hN8;clear hN8;obtain ⟨N9, hN9⟩ : ∃ N, vl.length = N := ⟨_, rfl⟩;rw [hN9];have HN9 := Lib.hid hN9;clear hN9;clear h5 hz5 h6 hz6 h7 hz7 h8 hz8 h9 hz9 hw0 hw1 hw2 hw3 hw4 hw5 hw6 hw7 hw8 hw9;obtain ⟨W0, hW0⟩ : ∃ W0, w.alloc (.cells #[.int .i64 n0, .int .i64 n1, .int .i64 n2, .int .i64 n3, .int .i64 n4, .slice a5 N5 c5, .slice a6 N6 c6, .slice a7 N7 c7, .slice a8 N8 c8, .slice a9 N9 c9] 28) = W0 := ⟨_, rfl⟩;have hB0 : Below w.heap.size w W0 := by rw [<- hW0]; exact zf _ _
 have HB := Lib.hid hB0;have k0 : W0.cell? ⟨w.heap.size, 0, none⟩ = some (.int .i64 n0) := by rw [<- hW0]; exact ze w [_, _, _, _, _, _, _, _, _, _] _ 0 _ rfl
 have k1 : W0.cell? ⟨w.heap.size, 1, none⟩ = some (.int .i64 n1) := by rw [<- hW0]; exact ze w [_, _, _, _, _, _, _, _, _, _] _ 1 _ rfl
 have k2 : W0.cell? ⟨w.heap.size, 2, none⟩ = some (.int .i64 n2) := by rw [<- hW0]; exact ze w [_, _, _, _, _, _, _, _, _, _] _ 2 _ rfl
 have k3 : W0.cell? ⟨w.heap.size, 3, none⟩ = some (.int .i64 n3) := by rw [<- hW0]; exact ze w [_, _, _, _, _, _, _, _, _, _] _ 3 _ rfl
 have k4 : W0.cell? ⟨w.heap.size, 4, none⟩ = some (.int .i64 n4) := by rw [<- hW0]; exact ze w [_, _, _, _, _, _, _, _, _, _] _ 4 _ rfl
 have k5 : W0.cell? ⟨w.heap.size, 5, none⟩ = some (.slice a5 N5 c5) := by rw [<- hW0]; exact ze w [_, _, _, _, _, _, _, _, _, _] _ 5 _ rfl
 have k6 : W0.cell? ⟨w.heap.size, 6, none⟩ = some (.slice a6 N6 c6) := by rw [<- hW0]; exact ze w [_, _, _, _, _, _, _, _, _, _] _ 6 _ rfl
 have k7 : W0.cell? ⟨w.heap.size, 7, none⟩ = some (.slice a7 N7 c7) := by rw [<- hW0]; exact ze w [_, _, _, _, _, _, _, _, _, _] _ 7 _ rfl
 have k8 : W0.cell? ⟨w.heap.size, 8, none⟩ = some (.slice a8 N8 c8) := by rw [<- hW0]; exact ze w [_, _, _, _, _, _, _, _, _, _] _ 8 _ rfl
 have k9 : W0.cell? ⟨w.heap.size, 9, none⟩ = some (.slice a9 N9 c9) := by rw [<- hW0]; exact ze w [_, _, _, _, _, _, _, _, _, _] _ 9 _ rfl
 clear hB0;go_enter Tryz.func10, Tryz.ntmps10;go_wp2_with fail;refine (H0.out _).mono ?_;rintro _ w1 ⟨rfl, rfl⟩;go_wp2_with fail;go_ret;exact ⟨rfl, HB.out⟩
set_option maxHeartbeats 16000000 in
theorem right3_any (L : Low) (n0 n1 n2 n3 n4 : Int) (fl : List (List UInt8)) (cl : List Cm) (el : List En) (il : List It) (vl : List Vd) (v5 v6 v7 v8 v9 : Value) (w : World) (h : FrIs w (⟨3, n1, n2, n3, n4, fl, cl, el, il, vl⟩ : Fr) v5 v6 v7 v8 v9) (hw : FrWf (⟨3, n1, n2, n3, n4, fl, cl, el, il, vl⟩ : Fr)) :
 Calls Tryz.prog 10 #[.agg #[.int .i64 3, .int .i64 n1, .int .i64 n2, .int .i64 n3, .int .i64 n4, v5, v6, v7, v8, v9]] w fun z w' => z = .returned (.bool (rightP (⟨3, n1, n2, n3, n4, fl, cl, el, il, vl⟩ : Fr))) /\ Below w.heap.size w w' := by
 obtain ⟨h5, h6, h7, h8, h9⟩ := h;dsimp only at h5 h6 h7 h8 h9;obtain ⟨a5, c5, rfl, hz5⟩ := h5.open;obtain ⟨a6, c6, rfl, hz6⟩ := h6.open;obtain ⟨a7, c7, rfl, hz7⟩ := h7.open;obtain ⟨a8, c8, rfl, hz8⟩ := h8.open;obtain ⟨a9, c9, rfl, hz9⟩ := h9.open;obtain ⟨hw0, hw1, hw2, hw3, hw4, hw5, hw6, hw7, hw8, hw9⟩ := hw;dsimp only at hw0 hw1 hw2 hw3 hw4 hw5 hw6 hw7 hw8 hw9;show Calls _ _ _ w fun z w' => z = .returned (.bool (inn (3 : Int) 1 5 && (inn n1 0 5 && (inn n2 1 1099511627776 && (noneP (3 : Int) fl.length cl.length el.length il.length vl.length && (inn n3 0 1099511627776 && (inn n4 0 1099511627776 && kindP (⟨3, n1, n2, n3, n4, fl, cl, el, il, vl⟩ : Fr)))))))) /\ _
 have H0 := Lib.hid (fun (W : World) => zt (3 : Int) 1 5 W);rw [show inn (3 : Int) 1 5 = true by decide] at H0 ⊢;rw [Bool.true_and];have H1 := Lib.hid (fun (W : World) => zt n1 0 5 W);have H2 := Lib.hid (fun (W : World) => zt n2 1 1099511627776 W);have HN := Lib.hid (fun (W : World) => jk (3 : Int) n1 n2 n3 n4 a5 a6 a7 a8 a9 fl.length cl.length el.length il.length vl.length c5 c6 c7 c8 c9 W);have H3 := Lib.hid (fun (W : World) => zt n3 0 1099511627776 W);have H4 := Lib.hid (fun (W : World) => zt n4 0 1099511627776 W);obtain ⟨b1, e_b1⟩ : ∃ b, inn n1 0 5 = b := ⟨_, rfl⟩;rw [e_b1] at H1 ⊢;clear e_b1;obtain ⟨b2, e_b2⟩ : ∃ b, inn n2 1 1099511627776 = b := ⟨_, rfl⟩;rw [e_b2] at H2 ⊢;clear e_b2;obtain ⟨bn, e_bn⟩ : ∃ b, noneP (3 : Int) fl.length cl.length el.length il.length vl.length = b := ⟨_, rfl⟩;rw [e_bn] at HN ⊢;clear e_bn;obtain ⟨b3, e_b3⟩ : ∃ b, inn n3 0 1099511627776 = b := ⟨_, rfl⟩;rw [e_b3] at H3 ⊢;clear e_b3;obtain ⟨b4, e_b4⟩ : ∃ b, inn n4 0 1099511627776 = b := ⟨_, rfl⟩;rw [e_b4] at H4 ⊢;clear e_b4;obtain ⟨r, hr⟩ : ∃ r, kindP (⟨3, n1, n2, n3, n4, fl, cl, el, il, vl⟩ : Fr) = r := ⟨_, rfl⟩;rw [hr];have HR := Lib.hid hr;clear hr;obtain ⟨N5, hN5⟩ : ∃ N, fl.length = N := ⟨_, rfl⟩;rw [hN5] at HN ⊢;have HN5 := Lib.hid hN5;clear hN5;obtain ⟨N6, hN6⟩ : ∃ N, cl.length = N := ⟨_, rfl⟩;rw [hN6] at HN ⊢;have HN6 := Lib.hid hN6;clear hN6;obtain ⟨N7, hN7⟩ : ∃ N, el.length = N := ⟨_, rfl⟩;rw [hN7] at HN ⊢;have HN7 := Lib.hid hN7;clear hN7;obtain ⟨N8, hN8⟩ : ∃ N, il.length = N := ⟨_, rfl⟩;rw [hN8] at HN ⊢;have HN8 := Lib.hid hN8;clear hN8;obtain ⟨N9, hN9⟩ : ∃ N, vl.length = N := ⟨_, rfl⟩;rw [hN9] at HN ⊢;have HN9 := Lib.hid hN9;clear hN9;clear h5 hz5 h6 hz6 h7 hz7 h8 hz8 h9 hz9 hw0 hw1 hw2 hw3 hw4 hw5 hw6 hw7 hw8 hw9;obtain ⟨W0, hW0⟩ : ∃ W0, w.alloc (.cells #[.int .i64 3, .int .i64 n1, .int .i64 n2, .int .i64 n3, .int .i64 n4, .slice a5 N5 c5, .slice a6 N6 c6, .slice a7 N7 c7, .slice a8 N8 c8, .slice a9 N9 c9] 28) = W0 := ⟨_, rfl⟩;have hB0 : Below w.heap.size w W0 := by rw [<- hW0]; exact zf _ _
 have HB := Lib.hid hB0;have k0 : W0.cell? ⟨w.heap.size, 0, none⟩ = some (.int .i64 3) := by rw [<- hW0]; exact ze w [_, _, _, _, _, _, _, _, _, _] _ 0 _ rfl
 have k1 : W0.cell? ⟨w.heap.size, 1, none⟩ = some (.int .i64 n1) := by rw [<- hW0]; exact ze w [_, _, _, _, _, _, _, _, _, _] _ 1 _ rfl
 have k2 : W0.cell? ⟨w.heap.size, 2, none⟩ = some (.int .i64 n2) := by rw [<- hW0]; exact ze w [_, _, _, _, _, _, _, _, _, _] _ 2 _ rfl
 have k3 : W0.cell? ⟨w.heap.size, 3, none⟩ = some (.int .i64 n3) := by rw [<- hW0]; exact ze w [_, _, _, _, _, _, _, _, _, _] _ 3 _ rfl
 have k4 : W0.cell? ⟨w.heap.size, 4, none⟩ = some (.int .i64 n4) := by rw [<- hW0]; exact ze w [_, _, _, _, _, _, _, _, _, _] _ 4 _ rfl
 have k5 : W0.cell? ⟨w.heap.size, 5, none⟩ = some (.slice a5 N5 c5) := by rw [<- hW0]; exact ze w [_, _, _, _, _, _, _, _, _, _] _ 5 _ rfl
 have k6 : W0.cell? ⟨w.heap.size, 6, none⟩ = some (.slice a6 N6 c6) := by rw [<- hW0]; exact ze w [_, _, _, _, _, _, _, _, _, _] _ 6 _ rfl
 have k7 : W0.cell? ⟨w.heap.size, 7, none⟩ = some (.slice a7 N7 c7) := by rw [<- hW0]; exact ze w [_, _, _, _, _, _, _, _, _, _] _ 7 _ rfl
 have k8 : W0.cell? ⟨w.heap.size, 8, none⟩ = some (.slice a8 N8 c8) := by rw [<- hW0]; exact ze w [_, _, _, _, _, _, _, _, _, _] _ 8 _ rfl
 have k9 : W0.cell? ⟨w.heap.size, 9, none⟩ = some (.slice a9 N9 c9) := by rw [<- hW0]; exact ze w [_, _, _, _, _, _, _, _, _, _] _ 9 _ rfl
 clear hB0;go_enter Tryz.func10, Tryz.ntmps10;go_wp2_with fail;refine (H0.out _).mono ?_;rintro _ w1 ⟨rfl, rfl⟩;go_wp2_with fail;refine (H1.out _).mono ?_;rintro _ w1 ⟨rfl, rfl⟩;cases b1 with
 | false =>
  go_wp2_with fail;go_ret;exact ⟨rfl, HB.out⟩
 | true =>
  go_wp2_with fail;refine (H2.out _).mono ?_;rintro _ w1 ⟨rfl, rfl⟩;cases b2 with
  | false =>
   go_wp2_with fail;go_ret;exact ⟨rfl, HB.out⟩
  | true =>
   go_wp2_with fail;refine (HN.out _).mono ?_;rintro _ w2 ⟨rfl, hb2⟩;have k0 := za hb2 k0;have k1 := za hb2 k1;have k2 := za hb2 k2;have k3 := za hb2 k3;have k4 := za hb2 k4;have k5 := za hb2 k5;have k6 := za hb2 k6;have k7 := za hb2 k7;have k8 := za hb2 k8;have k9 := za hb2 k9;have HB := Lib.hid (HB.out.trans (hb2.mono HB.out.size));clear hb2 hW0;cases bn with
   | false =>
    go_wp2_with fail;go_ret;exact ⟨rfl, HB.out⟩
   | true =>
    go_wp2_with fail;refine (H3.out _).mono ?_;rintro _ w1 ⟨rfl, rfl⟩;cases b3 with
    | false =>
     go_wp2_with fail;go_ret;exact ⟨rfl, HB.out⟩
    | true =>
     go_wp2_with fail;refine (H4.out _).mono ?_;rintro _ w1 ⟨rfl, rfl⟩;cases b4 with
     | false =>
      go_wp2_with fail;go_ret;exact ⟨rfl, HB.out⟩
     | true =>
      by_cases z : n3 = 0
      ·subst z
       have HR := HR.out; simp [kindP] at HR; subst HR
       go_wp2_with fail;go_ret;exact ⟨rfl, HB.out⟩
      ·have y : (n3 == 0) = false := by simpa using z
       have HR := HR.out; simp [kindP, z] at HR; subst HR
       go_wp2_with fail;go_ret;exact ⟨rfl, HB.out⟩
set_option maxHeartbeats 16000000 in
theorem right1_any (L : Low) (n0 n1 n2 n3 n4 : Int) (fl : List (List UInt8)) (cl : List Cm) (el : List En) (il : List It) (vl : List Vd) (v5 v6 v7 v8 v9 : Value) (w : World) (h : FrIs w (⟨1, n1, n2, n3, n4, fl, cl, el, il, vl⟩ : Fr) v5 v6 v7 v8 v9) (hw : FrWf (⟨1, n1, n2, n3, n4, fl, cl, el, il, vl⟩ : Fr)) :
 Calls Tryz.prog 10 #[.agg #[.int .i64 1, .int .i64 n1, .int .i64 n2, .int .i64 n3, .int .i64 n4, v5, v6, v7, v8, v9]] w fun z w' => z = .returned (.bool (rightP (⟨1, n1, n2, n3, n4, fl, cl, el, il, vl⟩ : Fr))) /\ Below w.heap.size w w' := by
 obtain ⟨h5, h6, h7, h8, h9⟩ := h;dsimp only at h5 h6 h7 h8 h9;obtain ⟨a5, c5, rfl, hz5⟩ := h5.open;obtain ⟨a6, c6, rfl, hz6⟩ := h6.open;obtain ⟨a7, c7, rfl, hz7⟩ := h7.open;obtain ⟨a8, c8, rfl, hz8⟩ := h8.open;obtain ⟨a9, c9, rfl, hz9⟩ := h9.open;obtain ⟨hw0, hw1, hw2, hw3, hw4, hw5, hw6, hw7, hw8, hw9⟩ := hw;dsimp only at hw0 hw1 hw2 hw3 hw4 hw5 hw6 hw7 hw8 hw9;show Calls _ _ _ w fun z w' => z = .returned (.bool (inn (1 : Int) 1 5 && (inn n1 0 5 && (inn n2 1 1099511627776 && (noneP (1 : Int) fl.length cl.length el.length il.length vl.length && (inn n3 0 1099511627776 && (inn n4 0 1099511627776 && kindP (⟨1, n1, n2, n3, n4, fl, cl, el, il, vl⟩ : Fr)))))))) /\ _
 have H0 := Lib.hid (fun (W : World) => zt (1 : Int) 1 5 W);rw [show inn (1 : Int) 1 5 = true by decide] at H0 ⊢;rw [Bool.true_and];have H1 := Lib.hid (fun (W : World) => zt n1 0 5 W);have H2 := Lib.hid (fun (W : World) => zt n2 1 1099511627776 W);have HN := Lib.hid (fun (W : World) => jk (1 : Int) n1 n2 n3 n4 a5 a6 a7 a8 a9 fl.length cl.length el.length il.length vl.length c5 c6 c7 c8 c9 W);have H3 := Lib.hid (fun (W : World) => zt n3 0 1099511627776 W);have H4 := Lib.hid (fun (W : World) => zt n4 0 1099511627776 W);obtain ⟨b1, e_b1⟩ : ∃ b, inn n1 0 5 = b := ⟨_, rfl⟩;rw [e_b1] at H1 ⊢;clear e_b1;obtain ⟨b2, e_b2⟩ : ∃ b, inn n2 1 1099511627776 = b := ⟨_, rfl⟩;rw [e_b2] at H2 ⊢;clear e_b2;obtain ⟨bn, e_bn⟩ : ∃ b, noneP (1 : Int) fl.length cl.length el.length il.length vl.length = b := ⟨_, rfl⟩;rw [e_bn] at HN ⊢;clear e_bn;obtain ⟨b3, e_b3⟩ : ∃ b, inn n3 0 1099511627776 = b := ⟨_, rfl⟩;rw [e_b3] at H3 ⊢;clear e_b3;obtain ⟨b4, e_b4⟩ : ∃ b, inn n4 0 1099511627776 = b := ⟨_, rfl⟩;rw [e_b4] at H4 ⊢;clear e_b4;have HQ := Lib.hid (fun (W : World) (hb : Below w.heap.size w W) => L.right fl _ W (h5.below hb) (fun x hx => by have := hw5.1 x hx; unfold TxWf at this; omega));obtain ⟨q, e_q⟩ : ∃ b, filtP fl = b := ⟨_, rfl⟩;rw [e_q] at HQ;obtain ⟨r, hr⟩ : ∃ r, kindP (⟨1, n1, n2, n3, n4, fl, cl, el, il, vl⟩ : Fr) = r := ⟨_, rfl⟩;rw [hr];have HR := Lib.hid hr;clear hr;obtain ⟨N5, hN5⟩ : ∃ N, fl.length = N := ⟨_, rfl⟩;rw [hN5] at HN HQ⊢;have HN5 := Lib.hid hN5;clear hN5;obtain ⟨N6, hN6⟩ : ∃ N, cl.length = N := ⟨_, rfl⟩;rw [hN6] at HN ⊢;have HN6 := Lib.hid hN6;clear hN6;obtain ⟨N7, hN7⟩ : ∃ N, el.length = N := ⟨_, rfl⟩;rw [hN7] at HN ⊢;have HN7 := Lib.hid hN7;clear hN7;obtain ⟨N8, hN8⟩ : ∃ N, il.length = N := ⟨_, rfl⟩;rw [hN8] at HN ⊢;have HN8 := Lib.hid hN8;clear hN8;obtain ⟨N9, hN9⟩ : ∃ N, vl.length = N := ⟨_, rfl⟩;rw [hN9] at HN ⊢;have HN9 := Lib.hid hN9;clear hN9;clear h5 hz5 h6 hz6 h7 hz7 h8 hz8 h9 hz9 hw0 hw1 hw2 hw3 hw4 hw5 hw6 hw7 hw8 hw9;obtain ⟨W0, hW0⟩ : ∃ W0, w.alloc (.cells #[.int .i64 1, .int .i64 n1, .int .i64 n2, .int .i64 n3, .int .i64 n4, .slice a5 N5 c5, .slice a6 N6 c6, .slice a7 N7 c7, .slice a8 N8 c8, .slice a9 N9 c9] 28) = W0 := ⟨_, rfl⟩;have hB0 : Below w.heap.size w W0 := by rw [<- hW0]; exact zf _ _
 have HB := Lib.hid hB0;have k0 : W0.cell? ⟨w.heap.size, 0, none⟩ = some (.int .i64 1) := by rw [<- hW0]; exact ze w [_, _, _, _, _, _, _, _, _, _] _ 0 _ rfl
 have k1 : W0.cell? ⟨w.heap.size, 1, none⟩ = some (.int .i64 n1) := by rw [<- hW0]; exact ze w [_, _, _, _, _, _, _, _, _, _] _ 1 _ rfl
 have k2 : W0.cell? ⟨w.heap.size, 2, none⟩ = some (.int .i64 n2) := by rw [<- hW0]; exact ze w [_, _, _, _, _, _, _, _, _, _] _ 2 _ rfl
 have k3 : W0.cell? ⟨w.heap.size, 3, none⟩ = some (.int .i64 n3) := by rw [<- hW0]; exact ze w [_, _, _, _, _, _, _, _, _, _] _ 3 _ rfl
 have k4 : W0.cell? ⟨w.heap.size, 4, none⟩ = some (.int .i64 n4) := by rw [<- hW0]; exact ze w [_, _, _, _, _, _, _, _, _, _] _ 4 _ rfl
 have k5 : W0.cell? ⟨w.heap.size, 5, none⟩ = some (.slice a5 N5 c5) := by rw [<- hW0]; exact ze w [_, _, _, _, _, _, _, _, _, _] _ 5 _ rfl
 have k6 : W0.cell? ⟨w.heap.size, 6, none⟩ = some (.slice a6 N6 c6) := by rw [<- hW0]; exact ze w [_, _, _, _, _, _, _, _, _, _] _ 6 _ rfl
 have k7 : W0.cell? ⟨w.heap.size, 7, none⟩ = some (.slice a7 N7 c7) := by rw [<- hW0]; exact ze w [_, _, _, _, _, _, _, _, _, _] _ 7 _ rfl
 have k8 : W0.cell? ⟨w.heap.size, 8, none⟩ = some (.slice a8 N8 c8) := by rw [<- hW0]; exact ze w [_, _, _, _, _, _, _, _, _, _] _ 8 _ rfl
 have k9 : W0.cell? ⟨w.heap.size, 9, none⟩ = some (.slice a9 N9 c9) := by rw [<- hW0]; exact ze w [_, _, _, _, _, _, _, _, _, _] _ 9 _ rfl
 clear hB0;go_enter Tryz.func10, Tryz.ntmps10;go_wp2_with fail;refine (H0.out _).mono ?_;rintro _ w1 ⟨rfl, rfl⟩;go_wp2_with fail;refine (H1.out _).mono ?_;rintro _ w1 ⟨rfl, rfl⟩;cases b1 with
 | false =>
  go_wp2_with fail;go_ret;exact ⟨rfl, HB.out⟩
 | true =>
  go_wp2_with fail;refine (H2.out _).mono ?_;rintro _ w1 ⟨rfl, rfl⟩;cases b2 with
  | false =>
   go_wp2_with fail;go_ret;exact ⟨rfl, HB.out⟩
  | true =>
   go_wp2_with fail;refine (HN.out _).mono ?_;rintro _ w2 ⟨rfl, hb2⟩;have k0 := za hb2 k0;have k1 := za hb2 k1;have k2 := za hb2 k2;have k3 := za hb2 k3;have k4 := za hb2 k4;have k5 := za hb2 k5;have k6 := za hb2 k6;have k7 := za hb2 k7;have k8 := za hb2 k8;have k9 := za hb2 k9;have HB := Lib.hid (HB.out.trans (hb2.mono HB.out.size));clear hb2 hW0;cases bn with
   | false =>
    go_wp2_with fail;go_ret;exact ⟨rfl, HB.out⟩
   | true =>
    go_wp2_with fail;refine (H3.out _).mono ?_;rintro _ w1 ⟨rfl, rfl⟩;cases b3 with
    | false =>
     go_wp2_with fail;go_ret;exact ⟨rfl, HB.out⟩
    | true =>
     go_wp2_with fail;refine (H4.out _).mono ?_;rintro _ w1 ⟨rfl, rfl⟩;cases b4 with
     | false =>
      go_wp2_with fail;go_ret;exact ⟨rfl, HB.out⟩
     | true =>
      by_cases z : 0 < n4
      ·have HR := HR.out; simp [kindP, z, e_q] at HR; subst HR
       go_wp2_with fail;refine (HQ.out _ HB.out).mono ?_;rintro _ w5 ⟨rfl, hb5⟩;have HB := Lib.hid (HB.out.trans (hb5.mono HB.out.size));clear hb5;go_wp2_with fail;go_ret;exact ⟨rfl, HB.out⟩
      ·have HR := HR.out; simp [kindP, z] at HR; subst HR
       go_wp2_with fail;go_ret;exact ⟨rfl, HB.out⟩
set_option maxHeartbeats 16000000 in
theorem right5_any (L : Low) (n0 n1 n2 n3 n4 : Int) (fl : List (List UInt8)) (cl : List Cm) (el : List En) (il : List It) (vl : List Vd) (v5 v6 v7 v8 v9 : Value) (w : World) (h : FrIs w (⟨5, n1, n2, n3, n4, fl, cl, el, il, vl⟩ : Fr) v5 v6 v7 v8 v9) (hw : FrWf (⟨5, n1, n2, n3, n4, fl, cl, el, il, vl⟩ : Fr)) :
 Calls Tryz.prog 10 #[.agg #[.int .i64 5, .int .i64 n1, .int .i64 n2, .int .i64 n3, .int .i64 n4, v5, v6, v7, v8, v9]] w fun z w' => z = .returned (.bool (rightP (⟨5, n1, n2, n3, n4, fl, cl, el, il, vl⟩ : Fr))) /\ Below w.heap.size w w' := by
 obtain ⟨h5, h6, h7, h8, h9⟩ := h;dsimp only at h5 h6 h7 h8 h9;obtain ⟨a5, c5, rfl, hz5⟩ := h5.open;obtain ⟨a6, c6, rfl, hz6⟩ := h6.open;obtain ⟨a7, c7, rfl, hz7⟩ := h7.open;obtain ⟨a8, c8, rfl, hz8⟩ := h8.open;obtain ⟨a9, c9, rfl, hz9⟩ := h9.open;obtain ⟨hw0, hw1, hw2, hw3, hw4, hw5, hw6, hw7, hw8, hw9⟩ := hw;dsimp only at hw0 hw1 hw2 hw3 hw4 hw5 hw6 hw7 hw8 hw9;show Calls _ _ _ w fun z w' => z = .returned (.bool (inn (5 : Int) 1 5 && (inn n1 0 5 && (inn n2 1 1099511627776 && (noneP (5 : Int) fl.length cl.length el.length il.length vl.length && (inn n3 0 1099511627776 && (inn n4 0 1099511627776 && kindP (⟨5, n1, n2, n3, n4, fl, cl, el, il, vl⟩ : Fr)))))))) /\ _
 have H0 := Lib.hid (fun (W : World) => zt (5 : Int) 1 5 W);rw [show inn (5 : Int) 1 5 = true by decide] at H0 ⊢;rw [Bool.true_and];have H1 := Lib.hid (fun (W : World) => zt n1 0 5 W);have H2 := Lib.hid (fun (W : World) => zt n2 1 1099511627776 W);have HN := Lib.hid (fun (W : World) => jk (5 : Int) n1 n2 n3 n4 a5 a6 a7 a8 a9 fl.length cl.length el.length il.length vl.length c5 c6 c7 c8 c9 W);have H3 := Lib.hid (fun (W : World) => zt n3 0 1099511627776 W);have H4 := Lib.hid (fun (W : World) => zt n4 0 1099511627776 W);obtain ⟨b1, e_b1⟩ : ∃ b, inn n1 0 5 = b := ⟨_, rfl⟩;rw [e_b1] at H1 ⊢;clear e_b1;obtain ⟨b2, e_b2⟩ : ∃ b, inn n2 1 1099511627776 = b := ⟨_, rfl⟩;rw [e_b2] at H2 ⊢;clear e_b2;obtain ⟨bn, e_bn⟩ : ∃ b, noneP (5 : Int) fl.length cl.length el.length il.length vl.length = b := ⟨_, rfl⟩;rw [e_bn] at HN ⊢;clear e_bn;obtain ⟨b3, e_b3⟩ : ∃ b, inn n3 0 1099511627776 = b := ⟨_, rfl⟩;rw [e_b3] at H3 ⊢;clear e_b3;obtain ⟨b4, e_b4⟩ : ∃ b, inn n4 0 1099511627776 = b := ⟨_, rfl⟩;rw [e_b4] at H4 ⊢;clear e_b4;have HQ := Lib.hid (fun (W : World) (hb : Below w.heap.size w W) => items_any L il _ W (h8.below hb) hw8);have HS := Lib.hid (fun (W : World) (hb : Below w.heap.size w W) => verdicts_any L vl _ W (h9.below hb) hw9);obtain ⟨q, e_q⟩ : ∃ b, itemsP il = b := ⟨_, rfl⟩;rw [e_q] at HQ;obtain ⟨s, e_s⟩ : ∃ b, vdsP vl = b := ⟨_, rfl⟩;rw [e_s] at HS;obtain ⟨r, hr⟩ : ∃ r, kindP (⟨5, n1, n2, n3, n4, fl, cl, el, il, vl⟩ : Fr) = r := ⟨_, rfl⟩;rw [hr];have HR := Lib.hid hr;clear hr;obtain ⟨N5, hN5⟩ : ∃ N, fl.length = N := ⟨_, rfl⟩;rw [hN5] at HN ⊢;have HN5 := Lib.hid hN5;clear hN5;obtain ⟨N6, hN6⟩ : ∃ N, cl.length = N := ⟨_, rfl⟩;rw [hN6] at HN ⊢;have HN6 := Lib.hid hN6;clear hN6;obtain ⟨N7, hN7⟩ : ∃ N, el.length = N := ⟨_, rfl⟩;rw [hN7] at HN ⊢;have HN7 := Lib.hid hN7;clear hN7;obtain ⟨N8, hN8⟩ : ∃ N, il.length = N := ⟨_, rfl⟩;rw [hN8] at HN HQ⊢;have HN8 := Lib.hid hN8;clear hN8;obtain ⟨N9, hN9⟩ : ∃ N, vl.length = N := ⟨_, rfl⟩;rw [hN9] at HN HS⊢;have HN9 := Lib.hid hN9;clear hN9;clear h5 hz5 h6 hz6 h7 hz7 h8 hz8 h9 hz9 hw0 hw1 hw2 hw3 hw4 hw5 hw6 hw7 hw8 hw9;obtain ⟨W0, hW0⟩ : ∃ W0, w.alloc (.cells #[.int .i64 5, .int .i64 n1, .int .i64 n2, .int .i64 n3, .int .i64 n4, .slice a5 N5 c5, .slice a6 N6 c6, .slice a7 N7 c7, .slice a8 N8 c8, .slice a9 N9 c9] 28) = W0 := ⟨_, rfl⟩;have hB0 : Below w.heap.size w W0 := by rw [<- hW0]; exact zf _ _
 have HB := Lib.hid hB0;have k0 : W0.cell? ⟨w.heap.size, 0, none⟩ = some (.int .i64 5) := by rw [<- hW0]; exact ze w [_, _, _, _, _, _, _, _, _, _] _ 0 _ rfl
 have k1 : W0.cell? ⟨w.heap.size, 1, none⟩ = some (.int .i64 n1) := by rw [<- hW0]; exact ze w [_, _, _, _, _, _, _, _, _, _] _ 1 _ rfl
 have k2 : W0.cell? ⟨w.heap.size, 2, none⟩ = some (.int .i64 n2) := by rw [<- hW0]; exact ze w [_, _, _, _, _, _, _, _, _, _] _ 2 _ rfl
 have k3 : W0.cell? ⟨w.heap.size, 3, none⟩ = some (.int .i64 n3) := by rw [<- hW0]; exact ze w [_, _, _, _, _, _, _, _, _, _] _ 3 _ rfl
 have k4 : W0.cell? ⟨w.heap.size, 4, none⟩ = some (.int .i64 n4) := by rw [<- hW0]; exact ze w [_, _, _, _, _, _, _, _, _, _] _ 4 _ rfl
 have k5 : W0.cell? ⟨w.heap.size, 5, none⟩ = some (.slice a5 N5 c5) := by rw [<- hW0]; exact ze w [_, _, _, _, _, _, _, _, _, _] _ 5 _ rfl
 have k6 : W0.cell? ⟨w.heap.size, 6, none⟩ = some (.slice a6 N6 c6) := by rw [<- hW0]; exact ze w [_, _, _, _, _, _, _, _, _, _] _ 6 _ rfl
 have k7 : W0.cell? ⟨w.heap.size, 7, none⟩ = some (.slice a7 N7 c7) := by rw [<- hW0]; exact ze w [_, _, _, _, _, _, _, _, _, _] _ 7 _ rfl
 have k8 : W0.cell? ⟨w.heap.size, 8, none⟩ = some (.slice a8 N8 c8) := by rw [<- hW0]; exact ze w [_, _, _, _, _, _, _, _, _, _] _ 8 _ rfl
 have k9 : W0.cell? ⟨w.heap.size, 9, none⟩ = some (.slice a9 N9 c9) := by rw [<- hW0]; exact ze w [_, _, _, _, _, _, _, _, _, _] _ 9 _ rfl
 clear hB0;go_enter Tryz.func10, Tryz.ntmps10;go_wp2_with fail;refine (H0.out _).mono ?_;rintro _ w1 ⟨rfl, rfl⟩;go_wp2_with fail;refine (H1.out _).mono ?_;rintro _ w1 ⟨rfl, rfl⟩;cases b1 with
 | false =>
  go_wp2_with fail;go_ret;exact ⟨rfl, HB.out⟩
 | true =>
  go_wp2_with fail;refine (H2.out _).mono ?_;rintro _ w1 ⟨rfl, rfl⟩;cases b2 with
  | false =>
   go_wp2_with fail;go_ret;exact ⟨rfl, HB.out⟩
  | true =>
   go_wp2_with fail;refine (HN.out _).mono ?_;rintro _ w2 ⟨rfl, hb2⟩;have k0 := za hb2 k0;have k1 := za hb2 k1;have k2 := za hb2 k2;have k3 := za hb2 k3;have k4 := za hb2 k4;have k5 := za hb2 k5;have k6 := za hb2 k6;have k7 := za hb2 k7;have k8 := za hb2 k8;have k9 := za hb2 k9;have HB := Lib.hid (HB.out.trans (hb2.mono HB.out.size));clear hb2 hW0;cases bn with
   | false =>
    go_wp2_with fail;go_ret;exact ⟨rfl, HB.out⟩
   | true =>
    go_wp2_with fail;refine (H3.out _).mono ?_;rintro _ w1 ⟨rfl, rfl⟩;cases b3 with
    | false =>
     go_wp2_with fail;go_ret;exact ⟨rfl, HB.out⟩
    | true =>
     go_wp2_with fail;refine (H4.out _).mono ?_;rintro _ w1 ⟨rfl, rfl⟩;cases b4 with
     | false =>
      go_wp2_with fail;go_ret;exact ⟨rfl, HB.out⟩
     | true =>
      by_cases z : n3 = 0
      ·subst z
       have HR := HR.out; simp [kindP, e_q, e_s] at HR
       go_wp2_with fail;refine (HQ.out _ HB.out).mono ?_;rintro _ w5 ⟨rfl, hb5⟩;have k9 := za hb5 k9;have HB := Lib.hid (HB.out.trans (hb5.mono HB.out.size));clear hb5;cases q with
       | false =>
        simp at HR; subst HR
        go_wp2_with fail;go_ret;exact ⟨rfl, HB.out⟩
       | true =>
        simp at HR; subst HR
        go_wp2_with fail;refine (HS.out _ HB.out).mono ?_;rintro _ w5 ⟨rfl, hb5⟩;have HB := Lib.hid (HB.out.trans (hb5.mono HB.out.size));clear hb5;go_wp2_with fail;go_ret;exact ⟨rfl, HB.out⟩
      ·have y : (n3 == 0) = false := by simpa using z
       have HR := HR.out; simp [kindP, z] at HR; subst HR
       go_wp2_with fail;go_ret;exact ⟨rfl, HB.out⟩
end Go.Proofs.YtaidhoepnefcpaaGreat.C10
