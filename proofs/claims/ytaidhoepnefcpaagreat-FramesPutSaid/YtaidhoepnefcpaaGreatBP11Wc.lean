/-
  Layer 11, the program: what lays an entry, a command.
-/
import Derived.Test.YtaidhoepnefcpaaGreatBP10Le
namespace Go.Proofs.YtaidhoepnefcpaaGreat.C10
open Go Go.RowKit Go.Proofs B K P8
set_option linter.unusedVariables false
set_option maxRecDepth 100000
def Wr (B b : Nat) (g : Bool) (t : List UInt8) (W : World) : Prop :=
 ∃ (p v : Value) (er : Int) (l : List UInt8), WrAt B b p v er l W /\ (g = true -> l = t /\ er = 0) /\ (g = false -> er = 2)
theorem Wr.below {B b : Nat} {g : Bool} {t : List UInt8} {W W' : World} (h : Wr B b g t W) (hb : Below W.heap.size W W') : Wr B b g t W' := by
 obtain ⟨p, v, er, l, h1, h2⟩ := h; exact ⟨p, v, er, l, h1.below hb, h2⟩
theorem Wr.lt {B b : Nat} {g : Bool} {t : List UInt8} {W : World} (h : Wr B b g t W) : b < W.heap.size := by
 obtain ⟨p, v, er, l, h1, h2⟩ := h; exact h1.lt
def WPost (B b : Nat) (g : Bool) (t : List UInt8) (W : World) (z : Ending) (W' : World) : Prop := z = .returned (.tuple #[]) /\ Wr B b g t W' /\ Below B W W' /\ Wn b W W'
set_option maxHeartbeats 4000000 in
theorem wlayN_any (B b : Nat) (g ok : Bool) (t s : List UInt8) (x : Value) (W : World) (hW : Wr B b g t W) (hB : B <= W.heap.size) (ht : g = true -> t.length <= 1000000000) (hs : ok = true -> s.length <= 1000000000)
 (HP : Calls Tryz.prog 109 #[x] W fun e w' => e = .returned (.tuple #[.string (str (putS ok s)), .int .i64 (putE ok)]) /\ Below W.heap.size W w') :
 Calls Tryz.prog 108 #[.pointer (some ⟨b, 0, none⟩), x, .func (.func 109) #[] #[]] W (WPost B b (g && ok) (t ++ s) W) := by
 obtain ⟨p, v, er, l, hA, hg1, hg2⟩ := hW;have c2 := (zb hA.2.1 2 _ rfl).1;cases g with
 | false =>
  have he := hg2 rfl;subst he;have HA := Lib.hid hA;clear hA HP;go_enter Tryz.func108, Tryz.ntmps108;go_wp2_with fail;go_end0
  exact ⟨rfl, ⟨p, v, 2, l, HA.out, fun e => (by cases e), fun _ => rfl⟩, Below.refl _ _, Wn.refl _ _⟩
 | true =>
  obtain ⟨rfl, rfl⟩ := hg1 rfl;have HC := Lib.hid HP;have HA := Lib.hid hA;have ht := ht rfl;have hB0 := Lib.hid hB;have HT := Lib.hid ht;have HS := Lib.hid hs;clear HP hA ht hs;go_enter Tryz.func108, Tryz.ntmps108;go_wp2_with fail;refine HC.out.mono ?_;rintro _ w1 ⟨rfl, hb1⟩;have hA1 := HA.out.below hb1;have HB1 := Lib.hid (hb1.mono hB0.out);have HW1 := Lib.hid (Wn.of_below (b := b) hb1);have hlen : l.length + (putS ok s).length <= 140737488355328 := by
   have h1 := HT.out;cases ok with
   | true => have h2 := HS.out rfl; show l.length + s.length <= _; omega
   | false => show l.length + 0 <= _; omega
  have HWR := Lib.hid (yJ B b p v 0 l (putS ok s) w1 hA1 hlen (Nat.le_trans hB0.out hb1.size));clear hA1 hb1 hlen c2;go_wp2_with fail;refine HWR.out.mono ?_;rintro _ w2 ⟨rfl, ⟨v', hA2⟩, hb2, hn2⟩;have d2 := (zb hA2.2.1 2 _ rfl).1;have f2 := (zb hA2.2.1 2 _ rfl).2;have HA2 := Lib.hid hA2;have HB2 := Lib.hid (HB1.out.trans hb2);have HW2 := Lib.hid (HW1.out.trans hn2);have hBb := Lib.hid hA2.1;clear hA2 hb2 hn2;go_wp2_with fail;go_end0
  refine ⟨rfl, ⟨_, v', putE ok, l ++ putS ok s, ⟨hBb.out, heap_setCell_same w2 b 2 _ _ _ HA2.out.2.1, yT HA2.out.2.2.1 (own_ne HA2.out.2.2.1 HA2.out.2.1 qG), Or.inr rfl⟩, ?_, ?_⟩, HB2.out.setCell (p := ⟨b, 2, none⟩) hBb.out _, HW2.out.trans (Wn.set b 2 _ w2)⟩
  ·intro e
   rw [Bool.true_and] at e;subst e;exact ⟨rfl, rfl⟩
  ·intro e
   rw [Bool.true_and] at e;subst e;rfl
set_option maxHeartbeats 4000000 in
theorem wlayX_any (B b : Nat) (g ok : Bool) (t s : List UInt8) (x : Value) (W : World) (hW : Wr B b g t W) (hB : B <= W.heap.size) (ht : g = true -> t.length <= 1000000000) (hs : ok = true -> s.length <= 1000000000)
 (HP : Calls Tryz.prog 119 #[x] W fun e w' => e = .returned (.tuple #[.string (str (putS ok s)), .int .i64 (putE ok)]) /\ Below W.heap.size W w') :
 Calls Tryz.prog 118 #[.pointer (some ⟨b, 0, none⟩), x, .func (.func 119) #[] #[]] W (WPost B b (g && ok) (t ++ s) W) := by
 obtain ⟨p, v, er, l, hA, hg1, hg2⟩ := hW;have c2 := (zb hA.2.1 2 _ rfl).1;cases g with
 | false =>
  have he := hg2 rfl;subst he;have HA := Lib.hid hA;clear hA HP;go_enter Tryz.func118, Tryz.ntmps118;go_wp2_with fail;go_end0
  exact ⟨rfl, ⟨p, v, 2, l, HA.out, fun e => (by cases e), fun _ => rfl⟩, Below.refl _ _, Wn.refl _ _⟩
 | true =>
  obtain ⟨rfl, rfl⟩ := hg1 rfl;have HC := Lib.hid HP;have HA := Lib.hid hA;have ht := ht rfl;have hB0 := Lib.hid hB;have HT := Lib.hid ht;have HS := Lib.hid hs;clear HP hA ht hs;go_enter Tryz.func118, Tryz.ntmps118;go_wp2_with fail;refine HC.out.mono ?_;rintro _ w1 ⟨rfl, hb1⟩;have hA1 := HA.out.below hb1;have HB1 := Lib.hid (hb1.mono hB0.out);have HW1 := Lib.hid (Wn.of_below (b := b) hb1);have hlen : l.length + (putS ok s).length <= 140737488355328 := by
   have h1 := HT.out;cases ok with
   | true => have h2 := HS.out rfl; show l.length + s.length <= _; omega
   | false => show l.length + 0 <= _; omega
  have HWR := Lib.hid (yJ B b p v 0 l (putS ok s) w1 hA1 hlen (Nat.le_trans hB0.out hb1.size));clear hA1 hb1 hlen c2;go_wp2_with fail;refine HWR.out.mono ?_;rintro _ w2 ⟨rfl, ⟨v', hA2⟩, hb2, hn2⟩;have d2 := (zb hA2.2.1 2 _ rfl).1;have f2 := (zb hA2.2.1 2 _ rfl).2;have HA2 := Lib.hid hA2;have HB2 := Lib.hid (HB1.out.trans hb2);have HW2 := Lib.hid (HW1.out.trans hn2);have hBb := Lib.hid hA2.1;clear hA2 hb2 hn2;go_wp2_with fail;go_end0
  refine ⟨rfl, ⟨_, v', putE ok, l ++ putS ok s, ⟨hBb.out, heap_setCell_same w2 b 2 _ _ _ HA2.out.2.1, yT HA2.out.2.2.1 (own_ne HA2.out.2.2.1 HA2.out.2.1 qG), Or.inr rfl⟩, ?_, ?_⟩, HB2.out.setCell (p := ⟨b, 2, none⟩) hBb.out _, HW2.out.trans (Wn.set b 2 _ w2)⟩
  ·intro e
   rw [Bool.true_and] at e;subst e;exact ⟨rfl, rfl⟩
  ·intro e
   rw [Bool.true_and] at e;subst e;rfl
set_option maxHeartbeats 4000000 in
theorem wlayF_any (B b : Nat) (g ok : Bool) (t s : List UInt8) (x : Value) (W : World) (hW : Wr B b g t W) (hB : B <= W.heap.size) (ht : g = true -> t.length <= 1000000000) (hs : ok = true -> s.length <= 1000000000)
 (HP : Calls Tryz.prog 56 #[x] W fun e w' => e = .returned (.tuple #[.string (str (putS ok s)), .int .i64 (putE ok)]) /\ Below W.heap.size W w') :
 Calls Tryz.prog 55 #[.pointer (some ⟨b, 0, none⟩), x, .func (.func 56) #[] #[]] W (WPost B b (g && ok) (t ++ s) W) := by
 obtain ⟨p, v, er, l, hA, hg1, hg2⟩ := hW;have c2 := (zb hA.2.1 2 _ rfl).1;cases g with
 | false =>
  have he := hg2 rfl;subst he;have HA := Lib.hid hA;clear hA HP;go_enter Tryz.func55, Tryz.ntmps55;go_wp2_with fail;go_end0
  exact ⟨rfl, ⟨p, v, 2, l, HA.out, fun e => (by cases e), fun _ => rfl⟩, Below.refl _ _, Wn.refl _ _⟩
 | true =>
  obtain ⟨rfl, rfl⟩ := hg1 rfl;have HC := Lib.hid HP;have HA := Lib.hid hA;have ht := ht rfl;have hB0 := Lib.hid hB;have HT := Lib.hid ht;have HS := Lib.hid hs;clear HP hA ht hs;go_enter Tryz.func55, Tryz.ntmps55;go_wp2_with fail;refine HC.out.mono ?_;rintro _ w1 ⟨rfl, hb1⟩;have hA1 := HA.out.below hb1;have HB1 := Lib.hid (hb1.mono hB0.out);have HW1 := Lib.hid (Wn.of_below (b := b) hb1);have hlen : l.length + (putS ok s).length <= 140737488355328 := by
   have h1 := HT.out;cases ok with
   | true => have h2 := HS.out rfl; show l.length + s.length <= _; omega
   | false => show l.length + 0 <= _; omega
  have HWR := Lib.hid (yJ B b p v 0 l (putS ok s) w1 hA1 hlen (Nat.le_trans hB0.out hb1.size));clear hA1 hb1 hlen c2;go_wp2_with fail;refine HWR.out.mono ?_;rintro _ w2 ⟨rfl, ⟨v', hA2⟩, hb2, hn2⟩;have d2 := (zb hA2.2.1 2 _ rfl).1;have f2 := (zb hA2.2.1 2 _ rfl).2;have HA2 := Lib.hid hA2;have HB2 := Lib.hid (HB1.out.trans hb2);have HW2 := Lib.hid (HW1.out.trans hn2);have hBb := Lib.hid hA2.1;clear hA2 hb2 hn2;go_wp2_with fail;go_end0
  refine ⟨rfl, ⟨_, v', putE ok, l ++ putS ok s, ⟨hBb.out, heap_setCell_same w2 b 2 _ _ _ HA2.out.2.1, yT HA2.out.2.2.1 (own_ne HA2.out.2.2.1 HA2.out.2.1 qG), Or.inr rfl⟩, ?_, ?_⟩, HB2.out.setCell (p := ⟨b, 2, none⟩) hBb.out _, HW2.out.trans (Wn.set b 2 _ w2)⟩
  ·intro e
   rw [Bool.true_and] at e;subst e;exact ⟨rfl, rfl⟩
  ·intro e
   rw [Bool.true_and] at e;subst e;rfl
set_option maxHeartbeats 4000000 in
theorem wlayC_any (B b : Nat) (g ok : Bool) (t s : List UInt8) (c : Cm) (u : Value) (W : World) (hW : Wr B b g t W) (hB : B <= W.heap.size) (ht : g = true -> t.length <= 1000000000) (hs : ok = true -> s.length <= 1000000000)
 (HP : ∀ W1, Below W.heap.size W W1 -> Calls Tryz.prog 60 #[.agg #[.int .i64 c.client, .int .i64 c.seq, .string (str c.stream), .int .i64 c.rule, u, .int .i64 c.expect]] W1 fun e w' => e = .returned (.tuple #[.string (str (putS ok s)), .int .i64 (putE ok)]) /\ Below W1.heap.size W1 w') :
 Calls Tryz.prog 59 #[.pointer (some ⟨b, 0, none⟩), .agg #[.int .i64 c.client, .int .i64 c.seq, .string (str c.stream), .int .i64 c.rule, u, .int .i64 c.expect], .func (.func 60) #[] #[]] W (WPost B b (g && ok) (t ++ s) W) := by
 obtain ⟨p, v, er, l, hA, hg1, hg2⟩ := hW;obtain ⟨W0, hW0⟩ : ∃ W0, W.alloc (.cells #[.int .i64 c.client, .int .i64 c.seq, .string (str c.stream), .int .i64 c.rule, u, .int .i64 c.expect] 59) = W0 := ⟨_, rfl⟩;have hb0 : Below W.heap.size W W0 := by rw [<- hW0]; exact zf _ _
 have hb0' := hb0.mono hB;have hw0 : Wn b W W0 := Wn.of_below hb0;have k0 : W0.cell? ⟨W.heap.size, 0, none⟩ = some (.int .i64 c.client) := by rw [<- hW0]; exact ze W [_, _, _, _, _, _] _ 0 _ rfl
 have k1 : W0.cell? ⟨W.heap.size, 1, none⟩ = some (.int .i64 c.seq) := by rw [<- hW0]; exact ze W [_, _, _, _, _, _] _ 1 _ rfl
 have k2 : W0.cell? ⟨W.heap.size, 2, none⟩ = some (.string (str c.stream)) := by rw [<- hW0]; exact ze W [_, _, _, _, _, _] _ 2 _ rfl
 have k3 : W0.cell? ⟨W.heap.size, 3, none⟩ = some (.int .i64 c.rule) := by rw [<- hW0]; exact ze W [_, _, _, _, _, _] _ 3 _ rfl
 have k4 : W0.cell? ⟨W.heap.size, 4, none⟩ = some u := by rw [<- hW0]; exact ze W [_, _, _, _, _, _] _ 4 _ rfl
 have k5 : W0.cell? ⟨W.heap.size, 5, none⟩ = some (.int .i64 c.expect) := by rw [<- hW0]; exact ze W [_, _, _, _, _, _] _ 5 _ rfl
 have hA := hA.below hb0;have HP := HP W0 hb0;have hB1 : B <= W0.heap.size := Nat.le_trans hB hb0.size;have HX := Lib.hid (show ∀ W', Below B W0 W' -> Below B W W' from fun W' h => hb0'.trans h);have HY := Lib.hid (show ∀ W', Wn b W0 W' -> Wn b W W' from fun W' h => hw0.trans h);clear hb0 hb0' hw0;have c2 := (zb hA.2.1 2 _ rfl).1;cases g with
 | false =>
  have he := hg2 rfl;subst he;have HA := Lib.hid hA;clear hA HP;go_enter Tryz.func59, Tryz.ntmps59;go_wp2_with fail;go_end0
  exact ⟨rfl, ⟨p, v, 2, l, HA.out, fun e => (by cases e), fun _ => rfl⟩, HX.out _ (Below.refl _ _), HY.out _ (Wn.refl _ _)⟩
 | true =>
  obtain ⟨rfl, rfl⟩ := hg1 rfl;have HC := Lib.hid HP;have HA := Lib.hid hA;have ht := ht rfl;have hB0 := Lib.hid hB1;have HT := Lib.hid ht;have HS := Lib.hid hs;clear HP hA ht hs;go_enter Tryz.func59, Tryz.ntmps59;go_wp2_with fail;refine HC.out.mono ?_;rintro _ w1 ⟨rfl, hb1⟩;have hA1 := HA.out.below hb1;have HB1 := Lib.hid (hb1.mono hB0.out);have HW1 := Lib.hid (Wn.of_below (b := b) hb1);have hlen : l.length + (putS ok s).length <= 140737488355328 := by
   have h1 := HT.out;cases ok with
   | true => have h2 := HS.out rfl; show l.length + s.length <= _; omega
   | false => show l.length + 0 <= _; omega
  have HWR := Lib.hid (yJ B b p v 0 l (putS ok s) w1 hA1 hlen (Nat.le_trans hB0.out hb1.size));clear hA1 hb1 hlen c2;go_wp2_with fail;refine HWR.out.mono ?_;rintro _ w2 ⟨rfl, ⟨v', hA2⟩, hb2, hn2⟩;have d2 := (zb hA2.2.1 2 _ rfl).1;have f2 := (zb hA2.2.1 2 _ rfl).2;have HA2 := Lib.hid hA2;have HB2 := Lib.hid (HB1.out.trans hb2);have HW2 := Lib.hid (HW1.out.trans hn2);have hBb := Lib.hid hA2.1;clear hA2 hb2 hn2;go_wp2_with fail;go_end0
  refine ⟨rfl, ⟨_, v', putE ok, l ++ putS ok s, ⟨hBb.out, heap_setCell_same w2 b 2 _ _ _ HA2.out.2.1, yT HA2.out.2.2.1 (own_ne HA2.out.2.2.1 HA2.out.2.1 qG), Or.inr rfl⟩, ?_, ?_⟩, HX.out _ (HB2.out.setCell (p := ⟨b, 2, none⟩) hBb.out _), HY.out _ (HW2.out.trans (Wn.set b 2 _ w2))⟩
  ·intro e
   rw [Bool.true_and] at e;subst e;exact ⟨rfl, rfl⟩
  ·intro e
   rw [Bool.true_and] at e;subst e;rfl
set_option maxHeartbeats 4000000 in
theorem wlayE_any (B b : Nat) (g ok : Bool) (t s : List UInt8) (x : Value) (W : World) (hW : Wr B b g t W) (hB : B <= W.heap.size) (ht : g = true -> t.length <= 1000000000) (hs : ok = true -> s.length <= 1000000000)
 (HP : Calls Tryz.prog 121 #[x] W fun e w' => e = .returned (.tuple #[.string (str (putS ok s)), .int .i64 (putE ok)]) /\ Below W.heap.size W w') :
 Calls Tryz.prog 120 #[.pointer (some ⟨b, 0, none⟩), x, .func (.func 121) #[] #[]] W (WPost B b (g && ok) (t ++ s) W) := by
 obtain ⟨p, v, er, l, hA, hg1, hg2⟩ := hW;have c2 := (zb hA.2.1 2 _ rfl).1;cases g with
 | false =>
  have he := hg2 rfl;subst he;have HA := Lib.hid hA;clear hA HP;go_enter Tryz.func120, Tryz.ntmps120;go_wp2_with fail;go_end0
  exact ⟨rfl, ⟨p, v, 2, l, HA.out, fun e => (by cases e), fun _ => rfl⟩, Below.refl _ _, Wn.refl _ _⟩
 | true =>
  obtain ⟨rfl, rfl⟩ := hg1 rfl;have HC := Lib.hid HP;have HA := Lib.hid hA;have ht := ht rfl;have hB0 := Lib.hid hB;have HT := Lib.hid ht;have HS := Lib.hid hs;clear HP hA ht hs;go_enter Tryz.func120, Tryz.ntmps120;go_wp2_with fail;refine HC.out.mono ?_;rintro _ w1 ⟨rfl, hb1⟩;have hA1 := HA.out.below hb1;have HB1 := Lib.hid (hb1.mono hB0.out);have HW1 := Lib.hid (Wn.of_below (b := b) hb1);have hlen : l.length + (putS ok s).length <= 140737488355328 := by
   have h1 := HT.out;cases ok with
   | true => have h2 := HS.out rfl; show l.length + s.length <= _; omega
   | false => show l.length + 0 <= _; omega
  have HWR := Lib.hid (yJ B b p v 0 l (putS ok s) w1 hA1 hlen (Nat.le_trans hB0.out hb1.size));clear hA1 hb1 hlen c2;go_wp2_with fail;refine HWR.out.mono ?_;rintro _ w2 ⟨rfl, ⟨v', hA2⟩, hb2, hn2⟩;have d2 := (zb hA2.2.1 2 _ rfl).1;have f2 := (zb hA2.2.1 2 _ rfl).2;have HA2 := Lib.hid hA2;have HB2 := Lib.hid (HB1.out.trans hb2);have HW2 := Lib.hid (HW1.out.trans hn2);have hBb := Lib.hid hA2.1;clear hA2 hb2 hn2;go_wp2_with fail;go_end0
  refine ⟨rfl, ⟨_, v', putE ok, l ++ putS ok s, ⟨hBb.out, heap_setCell_same w2 b 2 _ _ _ HA2.out.2.1, yT HA2.out.2.2.1 (own_ne HA2.out.2.2.1 HA2.out.2.1 qG), Or.inr rfl⟩, ?_, ?_⟩, HB2.out.setCell (p := ⟨b, 2, none⟩) hBb.out _, HW2.out.trans (Wn.set b 2 _ w2)⟩
  ·intro e
   rw [Bool.true_and] at e;subst e;exact ⟨rfl, rfl⟩
  ·intro e
   rw [Bool.true_and] at e;subst e;rfl
set_option maxHeartbeats 4000000 in
theorem wlayI_any (B b : Nat) (g ok : Bool) (t s : List UInt8) (x : Value) (W : World) (hW : Wr B b g t W) (hB : B <= W.heap.size) (ht : g = true -> t.length <= 1000000000) (hs : ok = true -> s.length <= 1000000000)
 (HP : Calls Tryz.prog 64 #[x] W fun e w' => e = .returned (.tuple #[.string (str (putS ok s)), .int .i64 (putE ok)]) /\ Below W.heap.size W w') :
 Calls Tryz.prog 63 #[.pointer (some ⟨b, 0, none⟩), x, .func (.func 64) #[] #[]] W (WPost B b (g && ok) (t ++ s) W) := by
 obtain ⟨p, v, er, l, hA, hg1, hg2⟩ := hW;have c2 := (zb hA.2.1 2 _ rfl).1;cases g with
 | false =>
  have he := hg2 rfl;subst he;have HA := Lib.hid hA;clear hA HP;go_enter Tryz.func63, Tryz.ntmps63;go_wp2_with fail;go_end0
  exact ⟨rfl, ⟨p, v, 2, l, HA.out, fun e => (by cases e), fun _ => rfl⟩, Below.refl _ _, Wn.refl _ _⟩
 | true =>
  obtain ⟨rfl, rfl⟩ := hg1 rfl;have HC := Lib.hid HP;have HA := Lib.hid hA;have ht := ht rfl;have hB0 := Lib.hid hB;have HT := Lib.hid ht;have HS := Lib.hid hs;clear HP hA ht hs;go_enter Tryz.func63, Tryz.ntmps63;go_wp2_with fail;refine HC.out.mono ?_;rintro _ w1 ⟨rfl, hb1⟩;have hA1 := HA.out.below hb1;have HB1 := Lib.hid (hb1.mono hB0.out);have HW1 := Lib.hid (Wn.of_below (b := b) hb1);have hlen : l.length + (putS ok s).length <= 140737488355328 := by
   have h1 := HT.out;cases ok with
   | true => have h2 := HS.out rfl; show l.length + s.length <= _; omega
   | false => show l.length + 0 <= _; omega
  have HWR := Lib.hid (yJ B b p v 0 l (putS ok s) w1 hA1 hlen (Nat.le_trans hB0.out hb1.size));clear hA1 hb1 hlen c2;go_wp2_with fail;refine HWR.out.mono ?_;rintro _ w2 ⟨rfl, ⟨v', hA2⟩, hb2, hn2⟩;have d2 := (zb hA2.2.1 2 _ rfl).1;have f2 := (zb hA2.2.1 2 _ rfl).2;have HA2 := Lib.hid hA2;have HB2 := Lib.hid (HB1.out.trans hb2);have HW2 := Lib.hid (HW1.out.trans hn2);have hBb := Lib.hid hA2.1;clear hA2 hb2 hn2;go_wp2_with fail;go_end0
  refine ⟨rfl, ⟨_, v', putE ok, l ++ putS ok s, ⟨hBb.out, heap_setCell_same w2 b 2 _ _ _ HA2.out.2.1, yT HA2.out.2.2.1 (own_ne HA2.out.2.2.1 HA2.out.2.1 qG), Or.inr rfl⟩, ?_, ?_⟩, HB2.out.setCell (p := ⟨b, 2, none⟩) hBb.out _, HW2.out.trans (Wn.set b 2 _ w2)⟩
  ·intro e
   rw [Bool.true_and] at e;subst e;exact ⟨rfl, rfl⟩
  ·intro e
   rw [Bool.true_and] at e;subst e;rfl
set_option maxHeartbeats 4000000 in
theorem wlayV_any (B b : Nat) (g ok : Bool) (t s : List UInt8) (x : Value) (W : World) (hW : Wr B b g t W) (hB : B <= W.heap.size) (ht : g = true -> t.length <= 1000000000) (hs : ok = true -> s.length <= 1000000000)
 (HP : Calls Tryz.prog 66 #[x] W fun e w' => e = .returned (.tuple #[.string (str (putS ok s)), .int .i64 (putE ok)]) /\ Below W.heap.size W w') :
 Calls Tryz.prog 65 #[.pointer (some ⟨b, 0, none⟩), x, .func (.func 66) #[] #[]] W (WPost B b (g && ok) (t ++ s) W) := by
 obtain ⟨p, v, er, l, hA, hg1, hg2⟩ := hW;have c2 := (zb hA.2.1 2 _ rfl).1;cases g with
 | false =>
  have he := hg2 rfl;subst he;have HA := Lib.hid hA;clear hA HP;go_enter Tryz.func65, Tryz.ntmps65;go_wp2_with fail;go_end0
  exact ⟨rfl, ⟨p, v, 2, l, HA.out, fun e => (by cases e), fun _ => rfl⟩, Below.refl _ _, Wn.refl _ _⟩
 | true =>
  obtain ⟨rfl, rfl⟩ := hg1 rfl;have HC := Lib.hid HP;have HA := Lib.hid hA;have ht := ht rfl;have hB0 := Lib.hid hB;have HT := Lib.hid ht;have HS := Lib.hid hs;clear HP hA ht hs;go_enter Tryz.func65, Tryz.ntmps65;go_wp2_with fail;refine HC.out.mono ?_;rintro _ w1 ⟨rfl, hb1⟩;have hA1 := HA.out.below hb1;have HB1 := Lib.hid (hb1.mono hB0.out);have HW1 := Lib.hid (Wn.of_below (b := b) hb1);have hlen : l.length + (putS ok s).length <= 140737488355328 := by
   have h1 := HT.out;cases ok with
   | true => have h2 := HS.out rfl; show l.length + s.length <= _; omega
   | false => show l.length + 0 <= _; omega
  have HWR := Lib.hid (yJ B b p v 0 l (putS ok s) w1 hA1 hlen (Nat.le_trans hB0.out hb1.size));clear hA1 hb1 hlen c2;go_wp2_with fail;refine HWR.out.mono ?_;rintro _ w2 ⟨rfl, ⟨v', hA2⟩, hb2, hn2⟩;have d2 := (zb hA2.2.1 2 _ rfl).1;have f2 := (zb hA2.2.1 2 _ rfl).2;have HA2 := Lib.hid hA2;have HB2 := Lib.hid (HB1.out.trans hb2);have HW2 := Lib.hid (HW1.out.trans hn2);have hBb := Lib.hid hA2.1;clear hA2 hb2 hn2;go_wp2_with fail;go_end0
  refine ⟨rfl, ⟨_, v', putE ok, l ++ putS ok s, ⟨hBb.out, heap_setCell_same w2 b 2 _ _ _ HA2.out.2.1, yT HA2.out.2.2.1 (own_ne HA2.out.2.2.1 HA2.out.2.1 qG), Or.inr rfl⟩, ?_, ?_⟩, HB2.out.setCell (p := ⟨b, 2, none⟩) hBb.out _, HW2.out.trans (Wn.set b 2 _ w2)⟩
  ·intro e
   rw [Bool.true_and] at e;subst e;exact ⟨rfl, rfl⟩
  ·intro e
   rw [Bool.true_and] at e;subst e;rfl
theorem wnum1_any (n : Int) (W : World) (h : I64 n) : Calls Tryz.prog 109 #[.int .i64 n] W fun e w' => e = .returned (.tuple #[.string (str (putS true (num n))), .int .i64 (putE true)]) /\ Below W.heap.size W w' := by
 have HC := Lib.hid (zR n W h);go_enter Tryz.func109, Tryz.ntmps109;go_wp2_with fail;refine HC.out.mono ?_;rintro _ w1 ⟨rfl, hb⟩;have HB := Lib.hid hb;clear hb;go_wp2_with fail;go_ret2;exact ⟨rfl, HB.out⟩
theorem int_ne : 3 ≠ 5 := by decide
theorem numsL_take {l : List Int} {K : Nat} {x : Int} (h : l[K]? = some x) : numsL (l.take (K + 1)) = numsL (l.take K) ++ num x := zV num h
set_option maxHeartbeats 4000000 in
theorem jf (B b gS : Nat) (g : Bool) (t : List UInt8) (l : List Int) (W : World) (hW : Wr B b g t W) (hB : B <= W.heap.size) (ht : g = true -> t.length <= 900000000) (hl : l.length <= 1000) (hI : ∀ x ∈ l, I64 x)
 (hS : W.heap[gS]? = some (.cells (l.map (Value.int .i64)).toArray 3 (0, 0))) (hne : gS ≠ b) :
 Calls Tryz.prog 54 #[.pointer (some ⟨b, 0, none⟩), .slice (some ⟨gS, 0, none⟩) l.length l.length] W (WPost B b g (t ++ numsL l) W) := by
 obtain ⟨N, hN⟩ : ∃ N, l.length = N := ⟨_, rfl⟩;rw [hN] at hl ⊢;have HN := Lib.hid hN;have HI := Lib.hid hI;have HS := Lib.hid hS;have HW := Lib.hid hW;have HT := Lib.hid ht;have hnl : ∀ k, (numsL (l.take k)).length <= 80000000 := fun k => by
  have := zy num 8000 (l.take k) fun y hy => Nat.le_trans (zi y (HI.out y (List.mem_of_mem_take hy))) (by decide)
  have h2 : (l.take k).length <= N := by rw [List.length_take, HN.out]; omega
  unfold numsL;omega
 have HNL := Lib.hid hnl;have hB0 := Lib.hid hB;clear hN hI hS hW ht hnl hB;go_enter Tryz.func54, Tryz.ntmps54;go_wp2_with fail;go_loopw [8] (fun i wr => ∃ K : Nat, i = .int .i64 (K : Int) /\ K <= N /\ Hid (Wr B b g (t ++ numsL (l.take K)) wr /\ Below B W wr /\ Wn b W wr)) (fun i _ => N - (intOf i).toNat)
 case atStart => exact ⟨0, rfl, Nat.zero_le _, Lib.hid ⟨by rw [List.take_zero]; show Wr B b g (t ++ []) W; rw [List.append_nil]; exact HW.out, Below.refl _ _, Wn.refl _ _⟩⟩
 case round =>
  obtain ⟨K, rfl, hK, HJ⟩ := hrel;by_cases hlt : K < N
  ·obtain ⟨x, hx⟩ : ∃ x, l[K]? = some x := ⟨_, List.getElem?_eq_getElem (by rw [HN.out]; exact hlt)⟩
   have hltI : (K : Int) < (N : Int) := by omega
   have hk0 : 0 <= (K : Int) := by omega
   have hw1 : IntKind.i64.wrap ((K : Int) + 1) = (K : Int) + 1 := IntWalk.i64_in _ (by omega);have hrow := HJ.out.2.2.row HS.out int_ne hne;have k0 : wr.cell? ⟨gS, K, none⟩ = some (.int .i64 x) := (zb hrow K _ (by simp [hx])).1;have hxI := HI.out x (List.mem_of_getElem? hx);have HV := Lib.hid (wlayN_any B b g true (t ++ numsL (l.take K)) (num x) (.int .i64 x) wr HJ.out.1 (Nat.le_trans hB0.out HJ.out.2.1.size) (fun hg => by rw [List.length_append]; have := HNL.out K; have := HT.out hg; omega) (fun _ => Nat.le_trans (zi x hxI) (by decide)) (wnum1_any x wr hxI));have HX := Lib.hid (numsL_take hx);clear hrow hx hxI;go_wp2_with fail;refine HV.out.mono ?_;rintro _ w1 ⟨rfl, h1, h2, h3⟩;have H1 := Lib.hid (show Wr B b g (t ++ numsL (l.take (K + 1))) w1 /\ Below B W w1 /\ Wn b W w1 from ⟨by rw [HX.out, <- List.append_assoc]; rw [Bool.and_true] at h1; exact h1, HJ.out.2.1.trans h2, HJ.out.2.2.trans h3⟩);clear h1 h2 h3;go_wp2_with fail;go_roundw
   case rel => exact ⟨K + 1, by go_num, by omega, H1⟩
   case measure => simp [intOf]; omega
  ·have hltI : ¬ (K : Int) < (N : Int) := by omega
   have hd : l.take K = l := List.take_of_length_le (by rw [HN.out]; omega);have HE := Lib.hid (show Wr B b g (t ++ numsL l) wr /\ Below B W wr /\ Wn b W wr by have := HJ.out; rw [hd] at this; exact this);clear hd;go_wp2_with fail;go_end0
   exact ⟨rfl, HE.out.1, HE.out.2.1, HE.out.2.2⟩
theorem wnum1 (B b gS : Nat) (g : Bool) (t : List UInt8) (n : Int) (W : World) (hW : Wr B b g t W) (hB : B <= W.heap.size) (ht : g = true -> t.length <= 900000000) (hn : I64 n) (hS : W.heap[gS]? = some (.cells #[.int .i64 n] 3 (0, 0))) (hne : gS ≠ b) :
 Calls Tryz.prog 54 #[.pointer (some ⟨b, 0, none⟩), .slice (some ⟨gS, 0, none⟩) 1 1] W (WPost B b g (t ++ numsL [n]) W) :=
 jf B b gS g t [n] W hW hB ht (by simp) (fun x hx => by rw [List.mem_singleton.1 hx]; exact hn) hS hne
theorem wnum2 (B b gS : Nat) (g : Bool) (t : List UInt8) (n m : Int) (W : World) (hW : Wr B b g t W) (hB : B <= W.heap.size) (ht : g = true -> t.length <= 900000000) (hn : I64 n) (hm : I64 m) (hS : W.heap[gS]? = some (.cells #[.int .i64 n, .int .i64 m] 3 (0, 0))) (hne : gS ≠ b) :
 Calls Tryz.prog 54 #[.pointer (some ⟨b, 0, none⟩), .slice (some ⟨gS, 0, none⟩) 2 2] W (WPost B b g (t ++ numsL [n, m]) W) :=
 jf B b gS g t [n, m] W hW hB ht (by simp) (fun x hx => by simp at hx; rcases hx with rfl | rfl <;> assumption) hS hne
theorem wnum3 (B b gS : Nat) (g : Bool) (t : List UInt8) (n m k : Int) (W : World) (hW : Wr B b g t W) (hB : B <= W.heap.size) (ht : g = true -> t.length <= 900000000) (hn : I64 n) (hm : I64 m) (hk : I64 k) (hS : W.heap[gS]? = some (.cells #[.int .i64 n, .int .i64 m, .int .i64 k] 3 (0, 0))) (hne : gS ≠ b) :
 Calls Tryz.prog 54 #[.pointer (some ⟨b, 0, none⟩), .slice (some ⟨gS, 0, none⟩) 3 3] W (WPost B b g (t ++ numsL [n, m, k]) W) :=
 jf B b gS g t [n, m, k] W hW hB ht (by simp) (fun x hx => by simp at hx; rcases hx with rfl | rfl | rfl <;> assumption) hS hne
theorem Zz : 53 ≠ 5 := by decide
theorem zY : 28 ≠ 5 := by decide
theorem yw : 43 ≠ 5 := by decide
theorem wtext_any (s : List UInt8) (W : World) (h : s.length <= 4096) : Calls Tryz.prog 119 #[.string (str s)] W fun e w' => e = .returned (.tuple #[.string (str (putS true (textL s))), .int .i64 (putE true)]) /\ Below W.heap.size W w' := by
 have H := V.yY s W (by unfold maxLen; omega);rw [textL_of s h] at H;exact H
theorem qU (s : List UInt8) (h : s.length <= 4096) : (textL s).length <= 5000 := by
 unfold textL;rw [List.length_append];have := zi (s.length : Int) ⟨by omega, by omega⟩;omega
set_option maxHeartbeats 8000000 in
theorem wentry_any (B b : Nat) (g : Bool) (t : List UInt8) (x : En) (u : Value) (W : World) (hW : Wr B b g t W) (hB : B <= W.heap.size) (ht : g = true -> t.length <= 800000000) (hE : ∀ W', Below B W W' -> EvsIs W' u x.events) (hs : x.stream.length <= 4096) (hx0 : I64 x.index) (hx3 : I64 x.seq) (hx4 : I64 x.code) (hwf : EvsWf x.events) :
 Calls Tryz.prog 62 #[.pointer (some ⟨b, 0, none⟩), .agg #[.int .i64 x.index, .string (str x.stream), u, .int .i64 x.seq, .int .i64 x.code]] W (WPost B b (g && evsP x.events) (t ++ layEn x) W) := by
 obtain ⟨F, hF⟩ : ∃ n, W.heap.size = n := ⟨_, rfl⟩;obtain ⟨W0, hW0⟩ : ∃ W0, W.alloc (.cells #[.int .i64 x.index, .string (str x.stream), u, .int .i64 x.seq, .int .i64 x.code] 53) = W0 := ⟨_, rfl⟩;have hb0 : Below W.heap.size W W0 := by rw [<- hW0]; exact zf _ _
 have hz0 : W0.heap[F]? = some (.cells #[.int .i64 x.index, .string (str x.stream), u, .int .i64 x.seq, .int .i64 x.code] 53 (0, 0)) := by rw [<- hW0, <- hF]; exact zg _ _
 have hFb : F ≠ b := by have := hW.lt; omega
 have HB0 := Lib.hid (hb0.mono hB);have HN0 := Lib.hid (Wn.of_below (b := b) hb0);have HZ0 := Lib.hid hz0;have HWR := Lib.hid (hW.below hb0);have HBS := Lib.hid (Nat.le_trans hB hb0.size);have HT := Lib.hid ht;have HE := Lib.hid hE;have k0 := (zb hz0 0 _ rfl).1;have k1 := (zb hz0 1 _ rfl).1;have k2 := (zb hz0 2 _ rfl).1;have k3 := (zb hz0 3 _ rfl).1;have k4 := (zb hz0 4 _ rfl).1;clear hW hb0 hz0 ht hE hB;go_enter Tryz.func62, Tryz.ntmps62;go_wp2_with fail;have hE := zf W0 (.cells #[.int .i64 x.index] 3);refine (wnum1 B b W0.heap.size _ _ (x.index) _ (HWR.out.below hE) (Nat.le_trans HBS.out hE.size) (fun hg => Nat.le_trans (HT.out hg) (by decide)) hx0 (zg _ _) (Nat.ne_of_gt HWR.out.lt)).mono ?_;rintro _ w1 ⟨rfl, h1, h2, h3⟩;have HB1 := Lib.hid (HB0.out.trans ((hE.mono HBS.out).trans h2));have HN1 := Lib.hid ((HN0.out.trans (Wn.of_below hE)).trans h3);have hz := ((Wn.of_below hE).trans h3).row HZ0.out Zz hFb;have HZ1 := Lib.hid hz;have HWR1 := Lib.hid h1;have HBS1 := Lib.hid (Nat.le_trans HBS.out (Nat.le_trans hE.size h2.size));clear h1 h2 h3 hE HWR HBS k0 k1 k2 k3 k4;have k0 := (zb hz 0 _ rfl).1;have k1 := (zb hz 1 _ rfl).1;have k2 := (zb hz 2 _ rfl).1;have k3 := (zb hz 3 _ rfl).1;have k4 := (zb hz 4 _ rfl).1;clear hz;go_wp2_with fail;refine (wlayX_any B b _ true _ (textL x.stream) _ _ HWR1.out HBS1.out (fun hg => by rw [List.length_append]; have := HT.out hg; have := zo [x.index] (by intro y hy; rw [List.mem_singleton.1 hy]; exact hx0); simp at this; omega) (fun _ => Nat.le_trans (qU _ hs) (by decide)) (wtext_any x.stream _ hs)).mono ?_;rintro _ w2 ⟨rfl, h1, h2, h3⟩;rw [Bool.and_true] at h1;have HB2 := Lib.hid (HB1.out.trans h2);have HN2 := Lib.hid (HN1.out.trans h3);have hz := h3.row HZ1.out Zz hFb;have HZ2 := Lib.hid hz;have HWR2 := Lib.hid h1;have HBS2 := Lib.hid (Nat.le_trans HBS1.out h2.size);clear h1 h2 h3 k0 k1 k2 k3 k4;have k0 := (zb hz 0 _ rfl).1;have k1 := (zb hz 1 _ rfl).1;have k2 := (zb hz 2 _ rfl).1;have k3 := (zb hz 3 _ rfl).1;have k4 := (zb hz 4 _ rfl).1;clear hz;go_wp2_with fail;refine (wlayE_any B b _ (evsP x.events) _ (layEvs x.events) _ _ HWR2.out HBS2.out (fun hg => by rw [List.length_append, List.length_append]; have := HT.out hg; have := zo [x.index] (by intro y hy; rw [List.mem_singleton.1 hy]; exact hx0); have := qU _ hs; simp at *; omega) (fun ho => Nat.le_trans (uW ho) (by decide)) (pPutEvents_any x.events u _ (HE.out _ HB2.out) hwf)).mono ?_;rintro _ w3 ⟨rfl, h1, h2, h3⟩;have HB3 := Lib.hid (HB2.out.trans h2);have HN3 := Lib.hid (HN2.out.trans h3);have hz := h3.row HZ2.out Zz hFb;have HWR := Lib.hid h1;have HBS := Lib.hid (Nat.le_trans HBS2.out h2.size);clear h1 h2 h3 k0 k1 k2 k3 k4;have k0 := (zb hz 0 _ rfl).1;have k1 := (zb hz 1 _ rfl).1;have k2 := (zb hz 2 _ rfl).1;have k3 := (zb hz 3 _ rfl).1;have k4 := (zb hz 4 _ rfl).1;clear hz;go_wp2_with fail;have hE := zf w3 (.cells #[.int .i64 x.seq, .int .i64 x.code] 3);refine (wnum2 B b w3.heap.size _ _ (x.seq) (x.code) _ (HWR.out.below hE) (Nat.le_trans HBS.out hE.size) (fun hg => by rw [Bool.and_eq_true] at hg; rw [List.length_append, List.length_append, List.length_append]; have := HT.out hg.1; have := zo [x.index] (by intro y hy; rw [List.mem_singleton.1 hy]; exact hx0); have := qU _ hs; have := uW hg.2; simp at *; omega) hx3 hx4 (zg _ _) (Nat.ne_of_gt HWR.out.lt)).mono ?_;rintro _ w4 ⟨rfl, h1, h2, h3⟩;have HZ := Lib.hid (show Wr B b (g && evsP x.events) (t ++ layEn x) w4 by
  have e : t ++ layEn x = t ++ numsL [x.index] ++ textL x.stream ++ layEvs x.events ++ numsL [x.seq, x.code] := by simp [layEn, numsL]
  rw [e]; exact h1)
 have HB4 := Lib.hid (HB3.out.trans ((hE.mono HBS.out).trans h2));have HN4 := Lib.hid ((HN3.out.trans (Wn.of_below hE)).trans h3);clear h1 h2 h3 hE;go_wp2_with fail;go_end0
 exact ⟨rfl, HZ.out, HB4.out, HN4.out⟩
set_option maxHeartbeats 4000000 in
theorem wcmd_item (B b A : Nat) (g : Bool) (t : List UInt8) (c : Cm) (u : Value) (W : World) (hW : Wr B b g t W) (hB : B <= W.heap.size) (ht : g = true -> t.length <= 800000000) (hC : ∀ W', Below B W W' -> SlN W' u c.args) (hwf : CmWf c) (hA : W.cell? ⟨A, 0, none⟩ = some (.pointer (some ⟨b, 0, none⟩))) :
 Calls Tryz.prog 58 #[.agg #[.int .i64 c.client, .int .i64 c.seq, .string (str c.stream), .int .i64 c.rule, u, .int .i64 c.expect], .pointer (some ⟨A, 0, none⟩)] W (WPost B b (g && cmdP c) (t ++ layCmd c) W) := by
 obtain ⟨W0, hW0⟩ : ∃ W0, W.alloc (.cells #[.int .i64 c.client, .int .i64 c.seq, .string (str c.stream), .int .i64 c.rule, u, .int .i64 c.expect] 59) = W0 := ⟨_, rfl⟩;have hb0 : Below W.heap.size W W0 := by rw [<- hW0]; exact zf _ _
 have k0 : W0.cell? ⟨W.heap.size, 0, none⟩ = some (.int .i64 c.client) := by rw [<- hW0]; exact ze W [_, _, _, _, _, _] _ 0 _ rfl
 have k1 : W0.cell? ⟨W.heap.size, 1, none⟩ = some (.int .i64 c.seq) := by rw [<- hW0]; exact ze W [_, _, _, _, _, _] _ 1 _ rfl
 have k2 : W0.cell? ⟨W.heap.size, 2, none⟩ = some (.string (str c.stream)) := by rw [<- hW0]; exact ze W [_, _, _, _, _, _] _ 2 _ rfl
 have k3 : W0.cell? ⟨W.heap.size, 3, none⟩ = some (.int .i64 c.rule) := by rw [<- hW0]; exact ze W [_, _, _, _, _, _] _ 3 _ rfl
 have k4 : W0.cell? ⟨W.heap.size, 4, none⟩ = some (u) := by rw [<- hW0]; exact ze W [_, _, _, _, _, _] _ 4 _ rfl
 have k5 : W0.cell? ⟨W.heap.size, 5, none⟩ = some (.int .i64 c.expect) := by rw [<- hW0]; exact ze W [_, _, _, _, _, _] _ 5 _ rfl
 have hA0 := za hb0 hA;have HB0 := Lib.hid (hb0.mono hB);have HN0 := Lib.hid (Wn.of_below (b := b) hb0);have HC := Lib.hid (wlayC_any B b g (cmdP c) t (layCmd c) c u W0 (hW.below hb0) (Nat.le_trans hB hb0.size) (fun hg => Nat.le_trans (ht hg) (by decide)) (fun ho => Nat.le_trans (ZV ho) (by decide)) (fun W1 hb1 => pPutCmd_any c u W1 (hC W1 ((hb0.mono hB).trans (hb1.mono (Nat.le_trans hB hb0.size)))) hwf));clear hW hb0 ht hC hA hB;go_enter Tryz.func58, Tryz.ntmps58;go_wp2_with fail;refine HC.out.mono ?_;rintro _ w1 ⟨rfl, h1, h2, h3⟩;have H := Lib.hid (show Wr B b (g && cmdP c) (t ++ layCmd c) w1 /\ Below B W w1 /\ Wn b W w1 from ⟨h1, HB0.out.trans h2, HN0.out.trans h3⟩);clear h1 h2 h3;go_wp2_with fail;go_end0
 exact ⟨rfl, H.out.1, H.out.2.1, H.out.2.2⟩
end Go.Proofs.YtaidhoepnefcpaaGreat.C10
