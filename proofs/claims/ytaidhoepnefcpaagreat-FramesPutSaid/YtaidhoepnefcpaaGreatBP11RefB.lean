/-
  Layer 11, the document's answers: whether a frame's other lists are nothing.
-/
import Derived.Test.YtaidhoepnefcpaaGreatBP11SameE
namespace Go.Proofs.YtaidhoepnefcpaaGreat.C10
open Go Go.RowKit Go.Proofs B K P8
set_option linter.unusedVariables false
set_option maxRecDepth 100000
structure Fr where
 kind : Int
 client : Int
 epoch : Int
 src : Int
 dst : Int
 filter : List (List UInt8)
 cmds : List Cm
 entries : List En
 items : List It
 verdicts : List Vd
def frCells (f : Fr) (v5 v6 v7 v8 v9 : Value) : List Value := [.int .i64 f.kind, .int .i64 f.client, .int .i64 f.epoch, .int .i64 f.src, .int .i64 f.dst, v5, v6, v7, v8, v9]
structure FrIs (w : World) (f : Fr) (v5 v6 v7 v8 v9 : Value) : Prop where
 filter : SlT w v5 f.filter
 cmds : CmsIs w v6 f.cmds
 entries : EnsIs w v7 f.entries
 items : ItsIs w v8 f.items
 verdicts : VdsIs w v9 f.verdicts
theorem FrIs.below {w w' : World} {f : Fr} {v5 v6 v7 v8 v9 : Value} (h : FrIs w f v5 v6 v7 v8 v9) (hb : Below w.heap.size w w') : FrIs w' f v5 v6 v7 v8 v9 :=
 ⟨h.filter.below hb, h.cmds.below hb, h.entries.below hb, h.items.below hb, h.verdicts.below hb⟩
structure FrSh (f : Fr) : Prop where
 filter : f.filter.length <= 4611686018427387904
 cmds : f.cmds.length <= 17592186044416
 args : ∀ e ∈ f.cmds, e.args.length <= 4611686018427387904
 entries : f.entries.length <= 17592186044416
 events : ∀ e ∈ f.entries, e.events.length <= 17592186044416 /\ ∀ y ∈ e.events, y.vars.length <= 4611686018427387904
 items : f.items.length <= 17592186044416
 vars : ∀ e ∈ f.items, e.st.vars.length <= 4611686018427387904
 verdicts : f.verdicts.length <= 17592186044416
theorem zt (n a b : Int) (w : World) : Calls Tryz.prog 20 #[.int .i64 n, .int .i64 a, .int .i64 b] w fun e w' => e = .returned (.bool (inn n a b)) /\ w = w' := by
 by_cases h1 : a <= n
 ·by_cases h2 : n <= b
  ·have hv : inn n a b = true := by unfold inn; simp [h1, h2]
   rw [hv]; clear hv
   go_enter Tryz.func20, Tryz.ntmps20;go_wp2_with fail;go_ret;exact ⟨rfl, rfl⟩
  ·have hv : inn n a b = false := by unfold inn; simp [h1, h2]
   rw [hv]; clear hv
   go_enter Tryz.func20, Tryz.ntmps20;go_wp2_with fail;go_ret;exact ⟨rfl, rfl⟩
 ·have hv : inn n a b = false := by unfold inn; simp [h1]
  rw [hv]; clear hv
  go_enter Tryz.func20, Tryz.ntmps20;go_wp2_with fail;go_ret;exact ⟨rfl, rfl⟩
def enP (x : En) : Bool :=
 (decide (x.stream = []) == decide (x.events.length = 0)) && ((decide (x.stream = []) || streamP x.stream) && (evsP x.events && (inn x.seq 0 1099511627776 && (inn x.code 0 63 &&
  (!(decide (x.events.length = 0) && decide (x.seq = 0)) && (decide (x.code = 0) || decide (x.events.length = 0) && decide (0 < x.seq)))))))
set_option maxHeartbeats 4000000 in
theorem entry_any (L : Low) (x : En) (v : Value) (w : World) (h : EvsIs w v x.events) (hs : TxWf x.stream) (hw : EvsWf x.events) :
 Calls Tryz.prog 24 #[.agg #[.int .i64 x.index, .string (str x.stream), v, .int .i64 x.seq, .int .i64 x.code]] w fun z w' => z = .returned (.bool (enP x)) /\ Below w.heap.size w w' := by
 obtain ⟨n0, s, ev, n3, n4⟩ := x;dsimp only at h hs hw ⊢;obtain ⟨a, cap, rfl, -⟩ := h.open;have H2 := Lib.hid (fun (W : World) (hb : Below w.heap.size w W) => L.stream s W (by have := hs; unfold TxWf at this; omega));have H3 := Lib.hid (fun (W : World) (hb : Below w.heap.size w W) => events_any L ev (.slice a ev.length cap) W (h.below hb) hw);have H4 := Lib.hid (fun (W : World) => zt n3 0 1099511627776 W);have H5 := Lib.hid (fun (W : World) => zt n4 0 63 W);unfold enP;dsimp only;obtain ⟨b2, e2⟩ : ∃ b, streamP s = b := ⟨_, rfl⟩;obtain ⟨b3, e3⟩ : ∃ b, evsP ev = b := ⟨_, rfl⟩;obtain ⟨b4, e4⟩ : ∃ b, inn n3 0 1099511627776 = b := ⟨_, rfl⟩;obtain ⟨b5, e5⟩ : ∃ b, inn n4 0 63 = b := ⟨_, rfl⟩;rw [e2] at H2; rw [e3] at H3; rw [e4] at H4; rw [e5] at H5
 rw [e2, e3, e4, e5];obtain ⟨E, hE⟩ : ∃ E, ev.length = E := ⟨_, rfl⟩;rw [hE] at H3 ⊢;clear e2 e3 e4 e5 hE h hw hs;obtain ⟨W0, hW0⟩ : ∃ W0, w.alloc (.cells #[.int .i64 n0, .string (str s), .slice a E cap, .int .i64 n3, .int .i64 n4] 53) = W0 := ⟨_, rfl⟩;have HB := Lib.hid (show Below w.heap.size w W0 by rw [<- hW0]; exact zf _ _);have k1 : W0.cell? ⟨w.heap.size, 1, none⟩ = some (.string (str s)) := by rw [<- hW0]; exact ze w [_, _, _, _, _] _ 1 _ rfl
 have k2 : W0.cell? ⟨w.heap.size, 2, none⟩ = some (.slice a E cap) := by rw [<- hW0]; exact ze w [_, _, _, _, _] _ 2 _ rfl
 have k3 : W0.cell? ⟨w.heap.size, 3, none⟩ = some (.int .i64 n3) := by rw [<- hW0]; exact ze w [_, _, _, _, _] _ 3 _ rfl
 have k4 : W0.cell? ⟨w.heap.size, 4, none⟩ = some (.int .i64 n4) := by rw [<- hW0]; exact ze w [_, _, _, _, _] _ 4 _ rfl
 by_cases hs : s = []
 ·subst hs
  have s1 : (str []).toList = [] := yj [];have s2 : (!(str []).toList.isEmpty) = false := by rw [yj]; rfl
  have s3 : (str []).toList.isEmpty = true := by rw [yj]; rfl
  by_cases hE : E = 0
  ·subst hE
   go_enter Tryz.func24, Tryz.ntmps24;go_wp2_with fail;refine (H3.out _ HB.out).mono ?_;rintro _ w3 ⟨rfl, rfl⟩;cases b3 with
   | false =>
    go_wp2_with fail;go_ret;exact ⟨by simp , HB.out⟩
   | true =>
    go_wp2_with fail;refine (H4.out _).mono ?_;rintro _ w4 ⟨rfl, rfl⟩;cases b4 with
    | false =>
     go_wp2_with fail;go_ret;exact ⟨by simp , HB.out⟩
    | true =>
     go_wp2_with fail;refine (H5.out _).mono ?_;rintro _ w5 ⟨rfl, rfl⟩;cases b5 with
     | false =>
      go_wp2_with fail;go_ret;exact ⟨by simp , HB.out⟩
     | true =>
      by_cases h3 : n3 = 0
      ·subst h3
       go_wp2_with fail;go_ret;exact ⟨by simp , HB.out⟩
      ·have e3 : (n3 == 0) = false := by simpa using h3
       by_cases h4 : n4 = 0
       ·subst h4
        go_wp2_with fail;go_ret;exact ⟨by simp, HB.out⟩
       ·have e4 : (n4 == 0) = false := by simpa using h4
        go_wp2_with fail;go_ret;exact ⟨by simp [h3, h4], HB.out⟩
  ·have e0 : ((E : Int) == 0) = false := by simpa using hE
   have e1 : 0 < E := by omega
   go_enter Tryz.func24, Tryz.ntmps24;go_wp2_with fail;go_ret;exact ⟨by simp [hE], HB.out⟩
 ·have s1 : ¬ (str s).toList = [] := by rw [yj]; exact hs
  have s2 : (!(str s).toList.isEmpty) = true := by rw [yj]; simpa using hs
  by_cases hE : E = 0
  ·subst hE
   go_enter Tryz.func24, Tryz.ntmps24;go_wp2_with fail;go_ret;exact ⟨by simp [hs], HB.out⟩
  ·have e0 : ((E : Int) == 0) = false := by simpa using hE
   have e1 : 0 < E := by omega
   go_enter Tryz.func24, Tryz.ntmps24;go_wp2_with fail;refine (H2.out _ HB.out).mono ?_;rintro _ w2 ⟨rfl, hb2⟩;have k2 := za hb2 k2;have k3 := za hb2 k3;have k4 := za hb2 k4;have HB := Lib.hid (HB.out.trans (hb2.mono HB.out.size));clear hb2 hW0 k1;cases b2 with
   | false =>
    go_wp2_with fail;go_ret;exact ⟨by simp [hs, hE], HB.out⟩
   | true =>
    go_wp2_with fail;refine (H3.out _ HB.out).mono ?_;rintro _ w3 ⟨rfl, rfl⟩;cases b3 with
    | false =>
     go_wp2_with fail;go_ret;exact ⟨by simp [hs, hE], HB.out⟩
    | true =>
     go_wp2_with fail;refine (H4.out _).mono ?_;rintro _ w4 ⟨rfl, rfl⟩;cases b4 with
     | false =>
      go_wp2_with fail;go_ret;exact ⟨by simp [hs, hE], HB.out⟩
     | true =>
      go_wp2_with fail;refine (H5.out _).mono ?_;rintro _ w5 ⟨rfl, rfl⟩;cases b5 with
      | false =>
       go_wp2_with fail;go_ret;exact ⟨by simp [hs, hE], HB.out⟩
      | true =>
       by_cases h4 : n4 = 0
       ·subst h4
        go_wp2_with fail;go_ret;exact ⟨by simp, HB.out⟩
       ·have e4 : (n4 == 0) = false := by simpa using h4
        go_wp2_with fail;go_ret;exact ⟨by simp [hs, hE, h4], HB.out⟩
def noneP (k : Int) (f c e i v : Nat) : Bool := (decide (k = 1) || decide (f = 0)) && ((decide (k = 2) || decide (c = 0)) && ((decide (k = 4) || decide (e = 0)) && (decide (k = 5) || (decide (i = 0) && decide (v = 0)))))
set_option maxHeartbeats 8000000 in
theorem jk (n0 n1 n2 n3 n4 : Int) (a5 a6 a7 a8 a9 : Option Addr) (N5 N6 N7 N8 N9 c5 c6 c7 c8 c9 : Nat) (w : World) :
 Calls Tryz.prog 21 #[.agg #[.int .i64 n0, .int .i64 n1, .int .i64 n2, .int .i64 n3, .int .i64 n4, .slice a5 N5 c5, .slice a6 N6 c6, .slice a7 N7 c7, .slice a8 N8 c8, .slice a9 N9 c9]] w fun z w' => z = .returned (.bool (noneP n0 N5 N6 N7 N8 N9)) /\ Below w.heap.size w w' := by
 unfold noneP;obtain ⟨W0, hW0⟩ : ∃ W0, w.alloc (.cells #[.int .i64 n0, .int .i64 n1, .int .i64 n2, .int .i64 n3, .int .i64 n4, .slice a5 N5 c5, .slice a6 N6 c6, .slice a7 N7 c7, .slice a8 N8 c8, .slice a9 N9 c9] 28) = W0 := ⟨_, rfl⟩;have HB := Lib.hid (show Below w.heap.size w W0 by rw [<- hW0]; exact zf _ _);have k0 : W0.cell? ⟨w.heap.size, 0, none⟩ = some (.int .i64 n0) := by rw [<- hW0]; exact ze w [_, _, _, _, _, _, _, _, _, _] _ 0 _ rfl
 have k5 : W0.cell? ⟨w.heap.size, 5, none⟩ = some (.slice a5 N5 c5) := by rw [<- hW0]; exact ze w [_, _, _, _, _, _, _, _, _, _] _ 5 _ rfl
 have k6 : W0.cell? ⟨w.heap.size, 6, none⟩ = some (.slice a6 N6 c6) := by rw [<- hW0]; exact ze w [_, _, _, _, _, _, _, _, _, _] _ 6 _ rfl
 have k7 : W0.cell? ⟨w.heap.size, 7, none⟩ = some (.slice a7 N7 c7) := by rw [<- hW0]; exact ze w [_, _, _, _, _, _, _, _, _, _] _ 7 _ rfl
 have k8 : W0.cell? ⟨w.heap.size, 8, none⟩ = some (.slice a8 N8 c8) := by rw [<- hW0]; exact ze w [_, _, _, _, _, _, _, _, _, _] _ 8 _ rfl
 have k9 : W0.cell? ⟨w.heap.size, 9, none⟩ = some (.slice a9 N9 c9) := by rw [<- hW0]; exact ze w [_, _, _, _, _, _, _, _, _, _] _ 9 _ rfl
 by_cases x1 : n0 = 1
 ·subst x1
  by_cases z6 : N6 = 0
  ·subst z6
   by_cases z7 : N7 = 0
   ·subst z7
    by_cases z8 : N8 = 0
    ·subst z8
     by_cases z9 : N9 = 0
     ·subst z9
      go_enter Tryz.func21, Tryz.ntmps21;go_wp2_with fail;go_ret;exact ⟨rfl, HB.out⟩
     ·have y9 : ((N9 : Int) == 0) = false := by simpa using z9
      go_enter Tryz.func21, Tryz.ntmps21;go_wp2_with fail;go_ret;exact ⟨by simp [z9], HB.out⟩
    ·have y8 : ((N8 : Int) == 0) = false := by simpa using z8
     go_enter Tryz.func21, Tryz.ntmps21;go_wp2_with fail;go_ret;exact ⟨by simp [z8], HB.out⟩
   ·have y7 : ((N7 : Int) == 0) = false := by simpa using z7
    go_enter Tryz.func21, Tryz.ntmps21;go_wp2_with fail;go_ret;exact ⟨by simp [z7], HB.out⟩
  ·have y6 : ((N6 : Int) == 0) = false := by simpa using z6
   go_enter Tryz.func21, Tryz.ntmps21;go_wp2_with fail;go_ret;exact ⟨by simp [z6], HB.out⟩
 ·have w1 : (n0 == 1) = false := by simpa using x1
  by_cases z5 : N5 = 0
  ·subst z5
   by_cases x2 : n0 = 2
   ·subst x2
    by_cases z7 : N7 = 0
    ·subst z7
     by_cases z8 : N8 = 0
     ·subst z8
      by_cases z9 : N9 = 0
      ·subst z9
       go_enter Tryz.func21, Tryz.ntmps21;go_wp2_with fail;go_ret;exact ⟨rfl, HB.out⟩
      ·have y9 : ((N9 : Int) == 0) = false := by simpa using z9
       go_enter Tryz.func21, Tryz.ntmps21;go_wp2_with fail;go_ret;exact ⟨by simp [z9], HB.out⟩
     ·have y8 : ((N8 : Int) == 0) = false := by simpa using z8
      go_enter Tryz.func21, Tryz.ntmps21;go_wp2_with fail;go_ret;exact ⟨by simp [z8], HB.out⟩
    ·have y7 : ((N7 : Int) == 0) = false := by simpa using z7
     go_enter Tryz.func21, Tryz.ntmps21;go_wp2_with fail;go_ret;exact ⟨by simp [z7], HB.out⟩
   ·have w2 : (n0 == 2) = false := by simpa using x2
    by_cases z6 : N6 = 0
    ·subst z6
     by_cases x4 : n0 = 4
     ·subst x4
      by_cases z8 : N8 = 0
      ·subst z8
       by_cases z9 : N9 = 0
       ·subst z9
        go_enter Tryz.func21, Tryz.ntmps21;go_wp2_with fail;go_ret;exact ⟨rfl, HB.out⟩
       ·have y9 : ((N9 : Int) == 0) = false := by simpa using z9
        go_enter Tryz.func21, Tryz.ntmps21;go_wp2_with fail;go_ret;exact ⟨by simp [z9], HB.out⟩
      ·have y8 : ((N8 : Int) == 0) = false := by simpa using z8
       go_enter Tryz.func21, Tryz.ntmps21;go_wp2_with fail;go_ret;exact ⟨by simp [z8], HB.out⟩
     ·have w4 : (n0 == 4) = false := by simpa using x4
      by_cases z7 : N7 = 0
      ·subst z7
       by_cases x5 : n0 = 5
       ·subst x5
        go_enter Tryz.func21, Tryz.ntmps21;go_wp2_with fail;go_ret;exact ⟨rfl, HB.out⟩
       ·have w5 : (n0 == 5) = false := by simpa using x5
        by_cases z8 : N8 = 0
        ·subst z8
         by_cases z9 : N9 = 0
         ·subst z9
          go_enter Tryz.func21, Tryz.ntmps21;go_wp2_with fail;go_ret;exact ⟨by simp [x1, x2, x4, x5], HB.out⟩
         ·have y9 : ((N9 : Int) == 0) = false := by simpa using z9
          go_enter Tryz.func21, Tryz.ntmps21;go_wp2_with fail;go_ret;exact ⟨by simp [x1, x2, x4, x5, z9], HB.out⟩
        ·have y8 : ((N8 : Int) == 0) = false := by simpa using z8
         go_enter Tryz.func21, Tryz.ntmps21;go_wp2_with fail;go_ret;exact ⟨by simp [x1, x2, x4, x5, z8], HB.out⟩
      ·have y7 : ((N7 : Int) == 0) = false := by simpa using z7
       go_enter Tryz.func21, Tryz.ntmps21;go_wp2_with fail;go_ret;exact ⟨by simp [x1, x2, x4, z7], HB.out⟩
    ·have y6 : ((N6 : Int) == 0) = false := by simpa using z6
     go_enter Tryz.func21, Tryz.ntmps21;go_wp2_with fail;go_ret;exact ⟨by simp [x1, x2, z6], HB.out⟩
  ·have y5 : ((N5 : Int) == 0) = false := by simpa using z5
   go_enter Tryz.func21, Tryz.ntmps21;go_wp2_with fail;go_ret;exact ⟨by simp [x1, z5], HB.out⟩
end Go.Proofs.YtaidhoepnefcpaaGreat.C10
