/-
  Layer 11, plainly: the bytes of a frame that may be are few.
-/
import Derived.Test.YtaidhoepnefcpaaGreatCMath
namespace Go.Proofs.YtaidhoepnefcpaaGreat.C10
open Go Go.RowKit Go.Proofs B K P8
set_option linter.unusedVariables false
set_option maxRecDepth 100000
def putS11 (ok : Bool) (t : List UInt8) : List UInt8 := if ok then t else []
def putE11 (ok : Bool) : Int := if ok then 0 else 2
def noFr : Fr := ⟨0, 0, 0, 0, 0, [], [], [], [], []⟩
structure Frm : Prop where
 put : ∀ (f : Fr) (v5 v6 v7 v8 v9 : Value) (w : World), FrIs w f v5 v6 v7 v8 v9 -> FrWf f ->
  Calls Tryz.prog 7 #[.agg (frCells f v5 v6 v7 v8 v9).toArray] w fun e w' => e = .returned (.tuple #[.string (str (putS11 (rightP f) (C.sealed (layFr f)))), .int .i64 (putE11 (rightP f))]) /\ Below w.heap.size w w'
 get : ∀ (s : List UInt8) (w : World), s.length <= 70368744177664 ->
  Calls Tryz.prog 13 #[.string (str s)] w fun e w' => ∃ (f : Fr) (v5 v6 v7 v8 v9 : Value) (er : Int), e = .returned (.tuple #[.agg (frCells f v5 v6 v7 v8 v9).toArray, .int .i64 er]) /\ FrIs w' f v5 v6 v7 v8 v9 /\ FrWf f /\ Below w.heap.size w w' /\
   (if (C.openOf s).2 = 0 then match rdFr (C.openOf s).1 with | some r => f = r /\ er = 0 | none => er ≠ 0 else er = (C.openOf s).2 /\ f = noFr)
 same : ∀ (f g : Fr) (v5 v6 v7 v8 v9 u5 u6 u7 u8 u9 : Value) (w : World), FrIs w f v5 v6 v7 v8 v9 -> FrIs w g u5 u6 u7 u8 u9 -> FrWf f -> FrWf g ->
  Calls Tryz.prog 15 #[.agg (frCells f v5 v6 v7 v8 v9).toArray, .agg (frCells g u5 u6 u7 u8 u9).toArray] w fun e w' => e = .returned (.bool (eqv f g)) /\ Below w.heap.size w w'
theorem wf_sh {f : Fr} (h : FrWf f) : FrSh f := by
 obtain ⟨-, -, -, -, -, h5, h6, h7, h8, h9⟩ := h;refine ⟨by have := h5.2; omega, h6.2, fun e he => ?_, h7.2, fun e he => ?_, h8.2, fun e he => ?_, h9.2⟩
 ·have := (h6.1 e he).2.2.2.2.1.2; omega
 ·have h := (h7.1 e he).2.2.1
  refine ⟨h.2, fun y hy => ?_⟩;have := (h.1 y hy).2.2; omega
 ·have := (h8.1 e he).2.2.2.2; omega
theorem open_sealed (l : List UInt8) : C.openOf (C.sealed l) = (l, 0) := by
 have h : (C.sealed l).take ((C.sealed l).length - 4) = l := by
  rw [C.sealed_length, Nat.add_sub_cancel]; unfold C.sealed; simp
 unfold C.openOf;rw [h, if_neg (by rw [C.sealed_length]; omega), if_pos rfl]
def ack0 : Fr := ⟨3, 1, 2, 0, 3, [], [], [], [], []⟩
theorem ack_facts : rightP ack0 = true /\ layFr ack0 = [6, 2, 4, 6] := by decide +kernel
theorem nil_is (f : Fr) (w : World) (a5 a6 a7 a8 a9 : Option Addr) (c5 c6 c7 c8 c9 : Nat) (h : f.filter = [] /\ f.cmds = [] /\ f.entries = [] /\ f.items = [] /\ f.verdicts = []) : FrIs w f (.slice a5 0 c5) (.slice a6 0 c6) (.slice a7 0 c7) (.slice a8 0 c8) (.slice a9 0 c9) := by
 obtain ⟨h5, h6, h7, h8, h9⟩ := h;refine ⟨?_, ?_, ?_, ?_, ?_⟩
 ·rw [h5]; exact ⟨a5, c5, rfl, fun j i h => by simp at h⟩
 ·rw [h6]; exact ⟨a6, c6, rfl, fun j i h => by simp at h⟩
 ·rw [h7]; exact ⟨a7, c7, rfl, fun j i h => by simp at h⟩
 ·rw [h8]; exact ⟨a8, c8, rfl, fun j i h => by simp at h⟩
 ·rw [h9]; exact ⟨a9, c9, rfl, fun j i h => by simp at h⟩
theorem nil_wf (k c e a b : Int) (h0 : I64 k) (h1 : I64 c) (h2 : I64 e) (h3 : I64 a) (h4 : I64 b) : FrWf ⟨k, c, e, a, b, [], [], [], [], []⟩ :=
 ⟨h0, h1, h2, h3, h4, ⟨fun x h => (by cases h), by simp⟩, ⟨fun x h => (by cases h), by simp⟩, ⟨fun x h => (by cases h), by simp⟩, ⟨fun x h => (by cases h), by simp⟩, ⟨fun x h => (by cases h), by simp⟩⟩
theorem i64s (n : Int) (h : 0 <= n) (h' : n <= 9) : I64 n := ⟨by omega, by omega⟩
theorem ack_wf : FrWf ack0 := nil_wf _ _ _ _ _ (i64s _ (by omega) (by omega)) (i64s _ (by omega) (by omega)) (i64s _ (by omega) (by omega)) (i64s _ (by omega) (by omega)) (i64s _ (by omega) (by omega))
theorem no_wf : FrWf noFr := nil_wf _ _ _ _ _ (i64s _ (by omega) (by omega)) (i64s _ (by omega) (by omega)) (i64s _ (by omega) (by omega)) (i64s _ (by omega) (by omega)) (i64s _ (by omega) (by omega))
set_option maxHeartbeats 8000000 in
theorem awake11_any (F : Frm) (w : World) :
 Calls Tryz.prog 9 #[] w fun e w' => e = .returned (.bool true) /\ Below w.heap.size w w' := by
 obtain ⟨f1, f2⟩ := ack_facts;have hPut := fun W => F.put ack0 (.slice none 0 0) (.slice none 0 0) (.slice none 0 0) (.slice none 0 0) (.slice none 0 0) W (nil_is ack0 W none none none none none 0 0 0 0 0 ⟨rfl, rfl, rfl, rfl, rfl⟩) ack_wf
 rw [f1, f2, show ∀ x, putS11 true x = x from fun _ => rfl, show putE11 true = 0 from rfl] at hPut;have hop := open_sealed [6, 2, 4, 6];have hrd : rdFr [6, 2, 4, 6] = some ack0 := by rw [<- f2]; exact frame_back ack0 f1
 have hX : C.sealed [6, 2, 4, 6] = [6, 2, 4, 6] ++ C.le4 (C.sum [6, 2, 4, 6]) := rfl;have hXl : (C.sealed [6, 2, 4, 6]).length = 8 := by rw [C.sealed_length]; rfl
 obtain ⟨X, hXX⟩ : ∃ X, C.sealed [6, 2, 4, 6] = X := ⟨_, rfl⟩;rw [hXX] at hop hX hXl hPut;have hsz : (str X).size = 8 := by rw [str_size]; exact hXl
 have hcut : (str X).extract 0 4 = str [6, 2, 4, 6] := by
  rw [hX]; unfold str; rfl
 have hr0 : (str [6, 2, 4, 6]).toList = [6, 2, 4, 6] := str_tl _;have hGet := fun W => F.get X W (by rw [hXl]; decide)
 rw [hop, hrd] at hGet;simp only [if_true] at hGet;have HP := Lib.hid hPut;have HG := Lib.hid hGet;have HS1 := Lib.hid (fun (a5 a6 a7 a8 a9 : Option Addr) (c5 c6 c7 c8 c9 : Nat) W => F.same ack0 ack0 (.slice none 0 0) (.slice none 0 0) (.slice none 0 0) (.slice none 0 0) (.slice none 0 0) (.slice a5 0 c5) (.slice a6 0 c6) (.slice a7 0 c7) (.slice a8 0 c8) (.slice a9 0 c9) W (nil_is _ _ _ _ _ _ _ _ _ _ _ _ ⟨rfl, rfl, rfl, rfl, rfl⟩) (nil_is _ _ _ _ _ _ _ _ _ _ _ _ ⟨rfl, rfl, rfl, rfl, rfl⟩) ack_wf ack_wf);have HS2 := Lib.hid (fun W => F.same ack0 noFr (.slice none 0 0) (.slice none 0 0) (.slice none 0 0) (.slice none 0 0) (.slice none 0 0) (.slice none 0 0) (.slice none 0 0) (.slice none 0 0) (.slice none 0 0) (.slice none 0 0) W (nil_is _ _ _ _ _ _ _ _ _ _ _ _ ⟨rfl, rfl, rfl, rfl, rfl⟩) (nil_is _ _ _ _ _ _ _ _ _ _ _ _ ⟨rfl, rfl, rfl, rfl, rfl⟩) ack_wf no_wf);rw [show eqv ack0 ack0 = true from eqv_self _] at HS1;rw [show eqv ack0 noFr = false from eqv_false (fun e => absurd (congrArg Fr.kind e) (by decide))] at HS2;clear hPut hGet f1 f2 hop hrd hX hXX F;go_enter Tryz.func9, Tryz.ntmps9;go_wp2_with fail;refine (HP.out _).mono ?_;rintro _ w1 ⟨rfl, hb1⟩;have k0 : w1.cell? ⟨w.heap.size, 0, none⟩ = some (.int .i64 3) := kept_cell hb1 (alloc_cell w [_, _, _, _, _, _, _, _, _, _] _ 0 _ rfl);have k1 : w1.cell? ⟨w.heap.size, 1, none⟩ = some (.int .i64 1) := kept_cell hb1 (alloc_cell w [_, _, _, _, _, _, _, _, _, _] _ 1 _ rfl);have k2 : w1.cell? ⟨w.heap.size, 2, none⟩ = some (.int .i64 2) := kept_cell hb1 (alloc_cell w [_, _, _, _, _, _, _, _, _, _] _ 2 _ rfl);have k3 : w1.cell? ⟨w.heap.size, 3, none⟩ = some (.int .i64 0) := kept_cell hb1 (alloc_cell w [_, _, _, _, _, _, _, _, _, _] _ 3 _ rfl);have k4 : w1.cell? ⟨w.heap.size, 4, none⟩ = some (.int .i64 3) := kept_cell hb1 (alloc_cell w [_, _, _, _, _, _, _, _, _, _] _ 4 _ rfl);have k5 : w1.cell? ⟨w.heap.size, 5, none⟩ = some (.slice none 0 0) := kept_cell hb1 (alloc_cell w [_, _, _, _, _, _, _, _, _, _] _ 5 _ rfl);have k6 : w1.cell? ⟨w.heap.size, 6, none⟩ = some (.slice none 0 0) := kept_cell hb1 (alloc_cell w [_, _, _, _, _, _, _, _, _, _] _ 6 _ rfl);have k7 : w1.cell? ⟨w.heap.size, 7, none⟩ = some (.slice none 0 0) := kept_cell hb1 (alloc_cell w [_, _, _, _, _, _, _, _, _, _] _ 7 _ rfl);have k8 : w1.cell? ⟨w.heap.size, 8, none⟩ = some (.slice none 0 0) := kept_cell hb1 (alloc_cell w [_, _, _, _, _, _, _, _, _, _] _ 8 _ rfl);have k9 : w1.cell? ⟨w.heap.size, 9, none⟩ = some (.slice none 0 0) := kept_cell hb1 (alloc_cell w [_, _, _, _, _, _, _, _, _, _] _ 9 _ rfl);have hbA := (below_alloc w _).trans (hb1.mono (below_alloc w _).size);clear hb1;go_wp2_with fail;refine (HG.out _).mono ?_;rintro _ w2 ⟨f, v5, v6, v7, v8, v9, er, rfl, hI, -, hb2, rfl, rfl⟩;obtain ⟨a5, c5, rfl, -⟩ := hI.filter.open;obtain ⟨a6, c6, rfl, -⟩ := hI.cmds.open;obtain ⟨a7, c7, rfl, -⟩ := hI.entries.open;obtain ⟨a8, c8, rfl, -⟩ := hI.items.open;obtain ⟨a9, c9, rfl, -⟩ := hI.verdicts.open;clear hI;have k0 := kept_cell hb2 k0;have k1 := kept_cell hb2 k1;have k2 := kept_cell hb2 k2;have k3 := kept_cell hb2 k3;have k4 := kept_cell hb2 k4;have k5 := kept_cell hb2 k5;have k6 := kept_cell hb2 k6;have k7 := kept_cell hb2 k7;have k8 := kept_cell hb2 k8;have k9 := kept_cell hb2 k9;have HB := Lib.hid (hbA.trans (hb2.mono hbA.size));clear hb2 hbA;have hA2 := below_alloc w2 (.cells #[.int .i64 3, .int .i64 1, .int .i64 2, .int .i64 0, .int .i64 3, .slice a5 0 c5, .slice a6 0 c6, .slice a7 0 c7, .slice a8 0 c8, .slice a9 0 c9] 28);have k0 := kept_cell hA2 k0;have k1 := kept_cell hA2 k1;have k2 := kept_cell hA2 k2;have k3 := kept_cell hA2 k3;have k4 := kept_cell hA2 k4;have k5 := kept_cell hA2 k5;have k6 := kept_cell hA2 k6;have k7 := kept_cell hA2 k7;have k8 := kept_cell hA2 k8;have k9 := kept_cell hA2 k9;have HBA := Lib.hid (HB.out.trans (hA2.mono HB.out.size));clear hA2;dsimp only [frCells, ack0, List.length_nil];go_wp2_with fail;refine (HS1.out a5 a6 a7 a8 a9 c5 c6 c7 c8 c9 _).mono ?_;rintro _ w3 ⟨rfl, hb3⟩;have k0 := kept_cell hb3 k0;have k1 := kept_cell hb3 k1;have k2 := kept_cell hb3 k2;have k3 := kept_cell hb3 k3;have k4 := kept_cell hb3 k4;have k5 := kept_cell hb3 k5;have k6 := kept_cell hb3 k6;have k7 := kept_cell hb3 k7;have k8 := kept_cell hb3 k8;have k9 := kept_cell hb3 k9;have HB3 := Lib.hid (HBA.out.trans (hb3.mono HBA.out.size));clear hb3;go_wp2_with fail;refine (HS2.out _).mono ?_;rintro _ w4 ⟨rfl, hb4⟩;go_wp2_with fail;go_ret;exact ⟨rfl, HB3.out.trans (hb4.mono HB3.out.size)⟩
theorem vals_len {l : List Int} {m : Nat} (hm : m <= 1000) (h : valsP l m = true) : (listL l).length <= 10 * m + 10 := by
 obtain ⟨h1, h2⟩ := vals_facts h;unfold listL;rw [List.length_append];have e1 := numsL_len l h1;have e2 := num_len (l.length : Int) ⟨by omega, by omega⟩;omega
theorem text_len32 {s : List UInt8} (h : s.length <= 32) : (textL s).length <= 42 := by
 have := textL_len s (by unfold TxWf; omega);omega
theorem cmd_len {c : Cm} (h : cmdP c = true) : (layCmd c).length <= 200 := by
 obtain ⟨a, b, t, r, v, e⟩ := c;unfold cmdP at h;simp only [Bool.and_eq_true, inn_iff] at h;obtain ⟨hh, hr, hv, he⟩ := h;obtain ⟨h1, h2, h3⟩ := head_facts hh;have e1 : layCmd ⟨a, b, t, r, v, e⟩ = num a ++ (num b ++ (textL t ++ (num r ++ (listL v ++ num e)))) := by simp [layCmd, numsL]
 rw [e1];simp only [List.length_append];have l1 := num_len a h1;have l2 := num_len b h2;have l3 := text_len32 h3;have l4 := num_len r ⟨by omega, by omega⟩;have l5 := vals_len (by omega) hv;have l6 := num_len e ⟨by omega, by omega⟩;omega
theorem ev_len {x : Ev} (h : evP x = true) : (layEv x).length <= 80 := by
 obtain ⟨a, v⟩ := x;unfold evP at h;simp only [Bool.and_eq_true, inn_iff] at h;unfold layEv;rw [List.length_append];have l1 := num_len a ⟨by omega, by omega⟩;have l2 := vals_len (by omega) h.2;dsimp only;omega
theorem evs_len {l : List Ev} (h : evsP l = true) : (layEvs l).length <= 250 := by
 obtain ⟨h1, h2⟩ := evs_facts h;unfold layEvs;rw [List.length_append];have l1 := num_len (l.length : Int) ⟨by omega, by omega⟩;have l2 := flat_len layEv 80 l fun y hy => ev_len (h1 y hy)
 omega
theorem en_len {x : En} (h : enP x = true) (hi : I64 x.index) : (layEn x).length <= 400 := by
 obtain ⟨h1, h2, h3, h4⟩ := enP_facts h;unfold layEn;simp only [List.length_append];have l1 := num_len x.index hi;have l2 := text_len32 h1;have l3 := evs_len h2;have l4 := numsL_len [x.seq, x.code] (by intro y hy; simp at hy; rcases hy with rfl | rfl <;> assumption);simp only [List.length_cons, List.length_nil] at l4;omega
theorem it_len {x : It} (h1 : streamP x.stream = true) (h2 : stP x.st = true) : (layIt x).length <= 150 := by
 obtain ⟨t, a, b, v⟩ := x;have h3 := stream_len h1;dsimp only at h3;unfold stP at h2;simp only [Bool.and_eq_true, inn_iff] at h2;unfold layIt;simp only [List.length_append];have l1 := text_len32 h3;have l2 := numsL_len [a, b] (by intro y hy; simp at hy; rcases hy with rfl | rfl <;> exact ⟨by omega, by omega⟩);have l3 := vals_len (by omega) h2.2.2;simp only [List.length_cons, List.length_nil] at l2;try dsimp only at l3 ⊢
 omega
theorem items_len {l : List It} (h : itemsP l = true) : (layItems l).length <= 10000 := by
 unfold itemsP at h;rw [Bool.and_eq_true, decide_eq_true_eq] at h;have h1 := itemsGo_facts l l 0 h.1;unfold layItems;rw [List.length_append];have l1 := num_len (l.length : Int) ⟨by omega, by omega⟩;have l2 := flat_len layIt 150 l fun y hy => it_len (h1 y hy).1 (h1 y hy).2
 omega
theorem vds_len {l : List Vd} (h : vdsP l = true) : (layVds l).length <= 1000 := by
 unfold vdsP at h;rw [Bool.and_eq_true, decide_eq_true_eq] at h;unfold layVds;rw [List.length_append];have l1 := num_len (l.length : Int) ⟨by omega, by omega⟩;have l2 := flat_len layVd 20 l fun y hy => layVd_len y (vdsGo_facts l l 0 h.1 y hy)
 omega
theorem filt_len {l : List (List UInt8)} (h : filtP l = true) : (layFilt l).length <= 1000 := by
 unfold filtP at h;rw [Bool.and_eq_true, decide_eq_true_eq, List.all_eq_true] at h;unfold layFilt;rw [List.length_append];have l1 := num_len (l.length : Int) ⟨by omega, by omega⟩;have l2 := flat_len textL 42 l fun y hy => text_len32 (pat_len (h.2 y hy))
 omega
theorem right_len {f : Fr} (h : rightP f = true) : (layFr f).length <= 20000 := by
 have hk := right_kind h;obtain ⟨h0, h1, h2, h3, h4, h5, n1, n2, n3, n4⟩ := right_facts h;obtain ⟨k, c, e, a, b, fl, cl, el, il, vl⟩ := f;dsimp only at hk h0 h1 h2 h3 h4 n1 n2 n3 n4 ⊢;rw [inn_iff] at hk;have hz := numsL_len [k, c, e] (by intro y hy; simp at hy; rcases hy with rfl | rfl | rfl <;> assumption);have ha := num_len a h3;have hb := num_len b h4;simp only [List.length_cons, List.length_nil] at hz;have hk2 : k = 1 \/ k = 2 \/ k = 3 \/ k = 4 \/ k = 5 := by omega
 rcases hk2 with rfl | rfl | rfl | rfl | rfl
 ·simp [kindP] at h5
  have l1 := filt_len h5.2;have e1 : layFr ⟨1, c, e, a, b, fl, cl, el, il, vl⟩ = numsL [1, c, e] ++ (num a ++ num b) ++ layFilt fl := by simp [layFr, numsL]
  rw [e1];simp only [List.length_append];omega
 ·simp [kindP] at h5
  obtain ⟨h6, -, -, h7, h8⟩ := h5;have l1 := flat_len layCmd 200 cl fun x hx => cmd_len (cmGo_facts _ _ _ _ h6 x hx)
  have l2 := num_len (cl.length : Int) ⟨by omega, by omega⟩;have e1 : layFr ⟨2, c, e, a, b, fl, cl, el, il, vl⟩ = numsL [2, c, e] ++ num (cl.length : Int) ++ cl.flatMap layCmd := by simp [layFr]
  rw [e1];simp only [List.length_append];omega
 ·have e1 : layFr ⟨3, c, e, a, b, fl, cl, el, il, vl⟩ = numsL [3, c, e] ++ num b := by simp [layFr]
  rw [e1];simp only [List.length_append];omega
 ·simp [kindP] at h5
  obtain ⟨h6, h7, h8⟩ := h5;have l1 := flat_len layEn 400 el fun x hx => by
   obtain ⟨g1, g2, g3⟩ := enGo_facts _ _ _ _ _ h6 x hx;unfold I64 at h3 h4;exact en_len g1 ⟨by omega, by omega⟩
  have l2 := num_len (el.length : Int) ⟨by omega, by omega⟩;have e1 : layFr ⟨4, c, e, a, b, fl, cl, el, il, vl⟩ = numsL [4, c, e] ++ (num a ++ num b ++ num (el.length : Int)) ++ el.flatMap layEn := by simp [layFr, numsL]
  rw [e1];simp only [List.length_append];omega
 ·simp [kindP] at h5
  obtain ⟨-, h6, h7⟩ := h5;have l1 := items_len h6;have l2 := vds_len h7;have e1 : layFr ⟨5, c, e, a, b, fl, cl, el, il, vl⟩ = numsL [5, c, e] ++ num b ++ layItems il ++ layVds vl := by simp [layFr]
  rw [e1];simp only [List.length_append];omega
end Go.Proofs.YtaidhoepnefcpaaGreat.C10
