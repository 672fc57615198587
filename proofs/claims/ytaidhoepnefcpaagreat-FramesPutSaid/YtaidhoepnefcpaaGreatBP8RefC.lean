/-
  Layer 8, the document's answer: what covers and what meets what.
-/
import Derived.Test.YtaidhoepnefcpaaGreatBVMath
import Derived.BigQuiet
import Derived.WalkMore
import Derived.Shelf.Abstract
import Derived.Deep.LoopGhost
namespace Go.Proofs.YtaidhoepnefcpaaGreat.P8
open Go Go.RowKit B K
set_option linter.unusedVariables false
theorem cut_idx : ∀ l : List UInt8, (Lib.indexByte l 47 = -1 /\ cutP l = (l, [], false)) \/ ∃ i : Nat, Lib.indexByte l 47 = (i : Int) /\ i < l.length /\ cutP l = (l.take i, l.drop (i + 1), true)
 | [] => Or.inl ⟨rfl, rfl⟩
 | b :: l => by
  by_cases hb : (b == 47) = true
  ·refine Or.inr ⟨0, ?_, by simp, ?_⟩
   ·unfold Lib.indexByte; rw [if_pos hb]; rfl
   ·unfold cutP; rw [if_pos hb]; rfl
  ·rcases cut_idx l with ⟨h1, h2⟩ | ⟨i, h1, h2, h3⟩
   ·refine Or.inl ⟨?_, ?_⟩
    ·unfold Lib.indexByte; rw [if_neg hb, h1]; rfl
    ·unfold cutP; rw [if_neg hb, h2]
   ·refine Or.inr ⟨i + 1, ?_, by simp; omega, ?_⟩
    ·unfold Lib.indexByte
     have : ¬ ((i : Int) == -1) = true := by simp
     rw [if_neg hb, h1, if_neg this]; rfl
    ·unfold cutP; rw [if_neg hb, h3]; rfl
set_option maxHeartbeats 1000000 in
set_option maxRecDepth 100000 in
theorem indexByte_any (s : ByteArray) (c : Int) (w : World) :
 Calls Tryz.prog 242 #[.string s, .int .u8 c] w fun e w' => e = .returned (.int .i64 (Lib.indexByte s.data.toList c.toNat.toUInt8)) /\ w = w' := by
 go_enter Tryz.func242, Tryz.ntmps242;go_wp2
 rw [run_callFunc_extern Tryz.func246 (by kernel_rfl) (by kernel_rfl) (by kernel_rfl) (e := Extern.BytealgIndexByte.indexByte) (by kernel_rfl), Lib.run_indexByteString];simp only [Result.andThen];rw [Oper.upon_value];go_wp2
 go_ret;exact ⟨rfl, rfl⟩
set_option maxHeartbeats 1000000 in
set_option maxRecDepth 100000 in
theorem Yg (l : List UInt8) (w : World) :
 Calls Tryz.prog 241 #[.string (str l), .string ⟨#[47]⟩] w fun e w' => e = .returned (.int .i64 (Lib.indexByte l 47)) /\ w = w' := by
 go_enter Tryz.func241, Tryz.ntmps241;go_wp2_with (go_at_call 242; refine (indexByte_any (str l) 47 _).mono ?_; rintro _ w1 ⟨rfl, rfl⟩)
 ·have h : ([47] == (str l).toList) = true := by assumption
  go_ret;rw [zL] at h;obtain rfl := beq_iff_eq.1 h;exact ⟨rfl, rfl⟩
 ·go_ret
  rw [qA];exact ⟨rfl, rfl⟩
theorem below_drewN (w : World) (n : Nat) : Below w.heap.size w (w.drewN n) := by
 induction n with
 | zero => exact Below.refl _ _
 | succ n ih => first | exact ih.drew | exact ih
set_option maxHeartbeats 1000000 in
set_option maxRecDepth 100000 in
theorem slite_cut_any (l : List UInt8) (hl : l.length <= 1000) (w : World) :
 Calls Tryz.prog 240 #[.string (str l), .string ⟨#[47]⟩] w fun e w' => e = .returned (.tuple #[sv (cutP l).1, sv (cutP l).2.1, .bool (cutP l).2.2]) /\ Below w.heap.size w w' := by
 have hsz : (str l).size = l.length := zn l;rcases cut_idx l with ⟨h1, h2⟩ | ⟨i, h1, h2, h3⟩
 ·rw [h2]
  go_enter Tryz.func240, Tryz.ntmps240;go_wp2_with fail;refine (Yg l _).mono ?_;rintro _ w1 ⟨rfl, rfl⟩;rw [h1];go_wp2_with fail;go_ret3;exact ⟨rfl, Below.refl _ _⟩
 ·rw [h3]
  have c1 : (0 : Int) <= ↑i := by omega
  have c2 : (↑i : Int) <= ↑(str l).size := by omega
  have c3 : (0 : Int) <= ↑i + 1 := by omega
  have c4 : (↑i + 1 : Int) <= ↑(str l).size := by omega
  have c5 : wrap64 (↑i + 1) = ↑i + 1 := by unfold wrap64; omega
  have c6 : IntKind.i64.wrap (↑i + 1) = ↑i + 1 := by rw [IntKind.wrap_i64]; omega
  go_enter Tryz.func240, Tryz.ntmps240;go_wp2_with fail;refine (Yg l _).mono ?_;rintro _ w1 ⟨rfl, rfl⟩;rw [h1];go_wp2_with fail;go_quiet (fail)
  go_wp2_with fail;go_ret3;have e1 : (str l).extract 0 i = str (l.take i) := str_take l i;have e2 : (str l).extract (i + 1) l.length = str (l.drop (i + 1)) := by
   rw [qE, List.take_of_length_le (by rw [List.length_drop]; omega)]
  show Ending.returned (.tuple #[.string ((str l).extract 0 i), .string ((str l).extract (i + 1) l.length), .bool true]) = _ /\ _
  rw [e1, e2];exact ⟨rfl, below_drewN w _⟩
def Box (w : World) (B : Nat) (l : List UInt8) : Prop := w.heap[B]? = some (.cells #[sv l] 9 (0, 0))
theorem Box.cell {w : World} {B : Nat} {l : List UInt8} (h : Box w B l) : w.cell? ⟨B, 0, none⟩ = some (sv l) /\ w.frozen? ⟨B, 0, none⟩ = false := by
 unfold Box at h;exact ⟨by simp [World.cell?, h], by simp [World.frozen?, h]⟩
theorem Box.lt {w : World} {B : Nat} {l : List UInt8} (h : Box w B l) : B < w.heap.size := (Array.getElem?_eq_some_iff.1 h).1
theorem Box.below {w w' : World} {B : Nat} {l : List UInt8} (h : Box w B l) (hb : Below w.heap.size w w') : Box w' B l := (hb.block _ h.lt).trans h
theorem Box.set {w : World} {B : Nat} {l : List UInt8} (h : Box w B l) (m : List UInt8) : Box (w.setCell ⟨B, 0, none⟩ (.string (str m))) B m := by
 unfold Box at h ⊢;rw [heap_setCell_same w B 0 _ _ _ h];rfl
structure Tg (g : Nat) (W W' : World) : Prop where
 os : W'.os = W.os
 tape : W'.tape = W.tape
 output : W'.output = W.output
 size : W.heap.size <= W'.heap.size
 block : ∀ b, b < W.heap.size -> b ≠ g -> W'.heap[b]? = W.heap[b]?
theorem Tg.refl (g : Nat) (W : World) : Tg g W W := ⟨rfl, rfl, rfl, Nat.le_refl _, fun _ _ _ => rfl⟩
theorem Tg.trans {g : Nat} {a b c : World} (h : Tg g a b) (k : Tg g b c) : Tg g a c :=
 ⟨k.os.trans h.os, k.tape.trans h.tape, k.output.trans h.output, Nat.le_trans h.size k.size, fun i hi hne => (k.block i (Nat.lt_of_lt_of_le hi h.size) hne).trans (h.block i hi hne)⟩
theorem Tg.of_below {g : Nat} {a b : World} (h : Below a.heap.size a b) : Tg g a b := ⟨h.os, h.tape, h.output, h.size, fun i hi _ => h.block i hi⟩
theorem Tg.onto {g n : Nat} {w a b : World} (h : Below n w a) (hn : n <= w.heap.size) (hg : n <= g) (k : Tg g a b) : Below n w b :=
 ⟨k.os.trans h.os, k.tape.trans h.tape, k.output.trans h.output, Nat.le_trans h.size k.size, fun i hi => (k.block i (Nat.lt_of_lt_of_le hi (Nat.le_trans hn h.size)) (by omega)).trans (h.block i hi)⟩
theorem Tg.set (W : World) (g k : Nat) (v : Value) : Tg g W (W.setCell ⟨g, k, none⟩ v) := by
 have hb := (Below.refl g W).setCell (p := ⟨g, k, none⟩) (Nat.le_refl _) v;refine ⟨hb.os, hb.tape, hb.output, hb.size, fun b hb hne => ?_⟩;rw [heap_setCell_other W ⟨g, k, none⟩ b _ hne]
set_option maxHeartbeats 1000000 in
set_option maxRecDepth 100000 in
theorem cut_any (l : List UInt8) (hl : l.length <= 1000) (w : World) :
 Calls Tryz.prog 239 #[.string (str l), .string ⟨#[47]⟩] w fun e w' => e = .returned (.tuple #[sv (cutP l).1, sv (cutP l).2.1, .bool (cutP l).2.2]) /\ Below w.heap.size w w' := by
 obtain ⟨⟨a, b, m⟩, hc⟩ : ∃ t, cutP l = t := ⟨_, rfl⟩;have hC := slite_cut_any l hl;rw [hc] at hC ⊢;go_enter Tryz.func239, Tryz.ntmps239;go_wp2_with fail;refine (hC _).mono ?_;rintro _ w1 ⟨rfl, hb⟩;simp only [sv];go_wp2_with fail;go_ret3;exact ⟨rfl, hb⟩
set_option maxHeartbeats 1000000 in
set_option maxRecDepth 100000 in
theorem next_any {B : Nat} {l : List UInt8} {w : World} (hB : Box w B l) (hl : l.length <= 1000) :
 Calls Tryz.prog 238 #[.pointer (some ⟨B, 0, none⟩)] w fun e w' => e = .returned (.tuple #[sv (cutP l).1, .bool (!(cutP l).2.2)]) /\ Box w' B (cutP l).2.1 /\ Tg B w w' := by
 obtain ⟨⟨a, b, m⟩, hc⟩ : ∃ t, cutP l = t := ⟨_, rfl⟩;have hC := cut_any l hl;rw [hc] at hC ⊢;obtain ⟨h1, h2⟩ := hB.cell;simp only [sv] at h1;go_enter Tryz.func238, Tryz.ntmps238;go_wp2_with fail;refine (hC _).mono ?_;rintro _ w1 ⟨rfl, hb⟩;simp only [sv];obtain ⟨h3, h4⟩ := (hB.below hb).cell;simp only [sv] at h3;go_wp2_with fail;go_ret2;refine ⟨?_, (hB.below hb).set b, (Tg.of_below hb).trans (Tg.set _ _ _ _)⟩;cases m <;> rfl
set_option maxHeartbeats 1000000 in
set_option maxRecDepth 100000 in
theorem walk_any (l : List UInt8) (w : World) :
 Calls Tryz.prog 232 #[.string (str l)] w fun e w' => e = .returned (.func (.func 238) #[] #[.pointer (some ⟨w.heap.size, 0, none⟩)]) /\ Box w' w.heap.size l /\ Below w.heap.size w w' := by
 go_enter Tryz.func232, Tryz.ntmps232;go_wp2_with fail;go_ret;exact ⟨rfl, zg _ _, (Below.refl _ _).alloc (Nat.le_refl _) _⟩
open Go.Shelf Go.Proofs
def pre (l : List UInt8) : Nat := (l.takeWhile okB).length
theorem pre_step {l : List UInt8} {k : Nat} {b : UInt8} (h : l[k]? = some b) : pre (l.drop k) = if okB b = true then 1 + pre (l.drop (k + 1)) else 0 := by
 obtain ⟨hk, rfl⟩ := List.getElem?_eq_some_iff.1 h;rw [List.drop_eq_getElem_cons hk];unfold pre;rw [List.takeWhile_cons];split
 ·simp; omega
 ·rfl
theorem plain_pre (l : List UInt8) : plainP l = (!l.isEmpty && decide (pre l = l.length)) := by
 unfold plainP;congr 1
 unfold pre;induction l with
 | nil => rfl
 | cons b l ih =>
  rw [List.takeWhile_cons, List.all_cons, ih];cases okB b <;> simp
theorem jv {l : List UInt8} {k : Nat} {b : UInt8} (h : l[k]? = some b) (hk : k < (str l).size) : ((str l)[k]'hk) = b := by
 obtain ⟨hk', rfl⟩ := List.getElem?_eq_some_iff.1 h;show (str l).data[k]'_ = _
 simp only [str, List.getElem_toArray]
theorem Za (y : Nat) : okN y = true ↔ (97 <= y /\ y <= 122) \/ (48 <= y /\ y <= 57) \/ y = 45 \/ y = 95 := by
 simp [okN]
theorem pre_on {l : List UInt8} {K y : Nat} (HP : pre l = K + pre (l.drop K)) (HS : pre (l.drop K) = if okN y = true then 1 + pre (l.drop (K + 1)) else 0)
 (h : (97 <= y /\ y <= 122) \/ (48 <= y /\ y <= 57) \/ y = 45 \/ y = 95) : pre l = (K + 1) + pre (l.drop (K + 1)) := by
 rw [if_pos ((Za y).2 h)] at HS; omega
theorem pre_off {l : List UInt8} {K y : Nat} (HP : pre l = K + pre (l.drop K)) (HS : pre (l.drop K) = if okN y = true then 1 + pre (l.drop (K + 1)) else 0)
 (h : ¬ ((97 <= y /\ y <= 122) \/ (48 <= y /\ y <= 57) \/ y = 45 \/ y = 95)) : pre l = K := by
 rw [if_neg (fun h' => h ((Za y).1 h'))] at HS; omega
theorem pre_end {l : List UInt8} {K : Nat} (HP : pre l = K + pre (l.drop K)) (h : l.length <= K) : pre l = K := by
 rw [List.drop_of_length_le h] at HP; exact HP
set_option maxHeartbeats 2000000 in
set_option maxRecDepth 100000 in
theorem plainBytes_any (l : List UInt8) (hl : l.length <= 1000) (w : World) :
 Calls Tryz.prog 233 #[.string (str l)] w fun e w' => e = .returned (.int .i64 (pre l)) /\ w = w' := by
 have hsz : (str l).size = l.length := zn l;go_enter Tryz.func233, Tryz.ntmps233;go_wp2_with fail;go_step3
 go_wp2_with fail;go_step3
 go_wp2_with fail;go_loopw [3, 4] (fun n _ wr => ∃ K : Nat, n = .int .i64 (K : Int) /\ K <= l.length /\ Hid (pre l = K + pre (l.drop K)) /\ wr = w) (fun n _ _ => l.length - (intOf n).toNat)
 case atStart => exact ⟨0, rfl, Nat.zero_le _, by show _ = _; rw [List.drop_zero]; omega, rfl⟩
 case round =>
  obtain ⟨K, rfl, hK, HP, rfl⟩ := hrel;by_cases hlt : K < l.length
  ·have hltI : (K : Int) < ((str l).size : Int) := by omega
   have hk' : K < (str l).size := by omega
   obtain ⟨b, hb⟩ : ∃ b, l[K]? = some b := ⟨_, List.getElem?_eq_getElem hlt⟩;have hs := pre_step hb;have hg : ((str l)[K]'hk') = b := jv hb hk';unfold okB at hs;obtain ⟨y, hy⟩ : ∃ y, b.toNat = y := ⟨_, rfl⟩;rw [hy] at hs;have HS := Lib.hid hs; clear hs
   have hw1 : IntKind.i64.wrap ((K : Int) + 1) = (K : Int) + 1 := IntWalk.i64_in _ (by omega);go_wp2_with fail
   all_goals (try simp only [beq_iff_eq, beq_eq_false_iff_ne, ne_eq] at *)
   all_goals first
    | (refine ⟨⟨K + 1, by go_num, by omega, pre_on HP.out HS.out (by omega), by first | trivial | rfl⟩, by simp [intOf]; omega⟩)
    | (have ho := pre_off HP.out HS.out (by omega)
       try rw [Exit.noGoto_ret]
       go_ret;rw [ho];exact ⟨rfl, rfl⟩)
  ·have hltI : ¬ (K : Int) < ((str l).size : Int) := by omega
   go_wp2_with fail;try rw [Exit.noGoto_ret]
   go_ret;rw [pre_end HP.out (by omega)];exact ⟨rfl, rfl⟩
set_option maxHeartbeats 1000000 in
set_option maxRecDepth 100000 in
theorem Ze (l : List UInt8) (hl : l.length <= 1000) (w : World) :
 Calls Tryz.prog 216 #[.string (str l)] w fun e w' => e = .returned (.bool (plainP l)) /\ w = w' := by
 have hsz : (str l).size = l.length := zn l;have hpl := plain_pre l;have HC := fun W => plainBytes_any l hl W
 cases l with
 | nil =>
  have he : (str ([] : List UInt8)).toList.isEmpty = true := by rw [zL]; rfl
  go_enter Tryz.func216, Tryz.ntmps216;go_wp2_with fail;go_ret;exact ⟨rfl, rfl⟩
 | cons b r =>
  have he : (str (b :: r)).toList.isEmpty = false := by rw [zL]; rfl
  obtain ⟨n, hn⟩ : ∃ n, (b :: r).length = n := ⟨_, rfl⟩;rw [hn] at hsz hpl;go_enter Tryz.func216, Tryz.ntmps216;go_wp2_with fail;refine (HC _).mono ?_;rintro _ w1 ⟨rfl, rfl⟩;go_wp2_with fail;go_ret;refine ⟨?_, rfl⟩;rw [hpl];have e3 : (((pre (b :: r) : Nat) : Int) == (n : Int)) = decide (pre (b :: r) = n) := by
   rw [Bool.eq_iff_iff, beq_iff_eq, decide_eq_true_eq]; omega
  show Ending.returned (.bool (((pre (b :: r) : Nat) : Int) == (n : Int))) = _
  rw [e3]; rfl
theorem rowGo_succ (r : List UInt8 -> Bool -> Bool) (n : Nat) (l : List UInt8) : rowGo r (n + 1) l = (r (cutP l).1 (!(cutP l).2.2) && (!(cutP l).2.2 || rowGo r n (cutP l).2.1)) := rfl
def Ent (N : Nat) : Prop := ∀ args w, (callFunc N args).run Tryz.prog w = .ok (.enter N args) w
set_option maxHeartbeats 1000000 in
set_option maxRecDepth 100000 in
theorem stream1_any (x : List UInt8) (last : Bool) (hl : x.length <= 1000) (w : World) :
 Calls Tryz.prog 215 #[.string (str x), .bool last] w fun e w' => e = .returned (.bool (rS x last)) /\ w = w' := by
 go_enter Tryz.func215, Tryz.ntmps215;go_wp2_with fail;refine (Ze x hl _).mono ?_;rintro _ w1 ⟨rfl, rfl⟩;go_wp2_with fail;go_ret;exact ⟨rfl, rfl⟩
set_option maxHeartbeats 1000000 in
set_option maxRecDepth 100000 in
theorem pattern1_any (x : List UInt8) (last : Bool) (hl : x.length <= 1000) (w : World) :
 Calls Tryz.prog 227 #[.string (str x), .bool last] w fun e w' => e = .returned (.bool (rP x last)) /\ w = w' := by
 have hr : rP x last = (plainP x || (x == [42] || (x == [42, 42] && last))) := rfl;rw [hr];have e1 : ((str x).toList == [42]) = (x == [42]) := by rw [zL]
 have e2 : ((str x).toList == [42, 42]) = (x == [42, 42]) := by rw [zL]
 obtain ⟨b1, h1⟩ : ∃ b, (x == [42]) = b := ⟨_, rfl⟩;obtain ⟨b2, h2⟩ : ∃ b, (x == [42, 42]) = b := ⟨_, rfl⟩;have HC := fun W => Ze x hl W
 obtain ⟨b0, h0⟩ : ∃ b, plainP x = b := ⟨_, rfl⟩;rw [h1] at e1; rw [h2] at e2
 rw [h0] at HC ⊢;rw [h1, h2];clear h0 h1 h2 hr;go_enter Tryz.func227, Tryz.ntmps227;go_wp2_with fail;refine (HC _).mono ?_;rintro _ w1 ⟨rfl, rfl⟩;cases b0 <;> cases b1 <;> cases b2 <;> cases last <;> (go_wp2_with fail; go_ret; exact ⟨rfl, rfl⟩)
set_option maxHeartbeats 2000000 in
set_option maxRecDepth 100000 in
theorem Ym {N : Nat} (hN : Ent N) {r : List UInt8 -> Bool -> Bool} (hr : ∀ x last W, x.length <= 1000 -> Calls Tryz.prog N #[.string (str x), .bool last] W fun e w' => e = .returned (.bool (r x last)) /\ W = w')
 (l : List UInt8) (hl : l.length <= 9223372036854775807) (w : World) :
 Calls Tryz.prog 214 #[.string (str l), .func (.func N) #[] #[]] w fun e w' => e = .returned (.bool (rowOk r l)) /\ Below w.heap.size w w' := by
 have hsz : (str l).size = l.length := zn l;unfold Ent at hN;by_cases h32 : l.length <= 32
 ·have hq : rowOk r l = rowGo r 4 l := by unfold rowOk; rw [rowGo_eq, decide_eq_true h32, Bool.true_and]
  rw [hq];have hI : ¬ (32 : Int) < (l.length : Int) := by omega
  go_enter Tryz.func214, Tryz.ntmps214;go_wp2_with fail;refine (walk_any l _).mono ?_;rintro _ w1 ⟨rfl, hB, hb⟩;obtain ⟨B, hBe⟩ : ∃ B, w.heap.size = B := ⟨_, rfl⟩;rw [hBe] at hB;rw [hBe] at hb ⊢;have HB := Lib.hid hB;have HBL := Lib.hid hb;clear hB hb;go_wp2_with fail;go_loopw [6, 7, 13] (fun _ _ k wr => ∃ (K : Nat) (m : List UInt8), k = .int .i64 (K : Int) /\ K <= 4 /\ m.length <= 32 /\ Hid (rowGo r 4 l = rowGo r (4 - K) m) /\ Hid (Box wr B m) /\ Hid (Below B w wr)) (fun _ _ k _ => 4 - (intOf k).toNat)
  case atStart => exact ⟨0, l, rfl, by omega, h32, rfl, HB.out, HBL.out⟩
  case round =>
   obtain ⟨K, m, rfl, hK, hm, HG, HX, HY⟩ := hrel;by_cases hlt : K < 4
   ·have hltI : (K : Int) < 4 := by omega
    have hw1 : IntKind.i64.wrap ((K : Int) + 1) = (K : Int) + 1 := IntWalk.i64_in _ (by omega);obtain ⟨⟨x, rest, more⟩, hc⟩ : ∃ t, cutP m = t := ⟨_, rfl⟩;have hg := HG.out;rw [show 4 - K = (4 - (K + 1)) + 1 by omega] at hg;rw [rowGo_succ r (4 - (K + 1)) m] at hg;have hC := next_any HX.out (by omega);have hlen := cut_len m;rw [hc] at hg hC hlen;simp only at hg hlen;have HG2 := Lib.hid hg;have HC := Lib.hid hC;have hx : x.length <= 1000 := by omega
    have hr1 := fun W => hr x (!more) W hx
    obtain ⟨ok, hok⟩ : ∃ b, r x (!more) = b := ⟨_, rfl⟩;rw [hok] at hr1;have HR := Lib.hid hr1;rw [hok] at hg;have HG2 := Lib.hid hg;clear hg hC hr1 hok hc;go_wp2_with fail;refine HC.out.mono ?_;rintro _ w2 ⟨rfl, hX2, hT⟩;have HX2 := Lib.hid hX2;have HY2 := Lib.hid (Tg.onto HY.out (by omega) (Nat.le_refl _) hT);clear hX2 hT;simp only [sv];go_wp2_with fail;refine (HR.out _).mono ?_;rintro _ w3 ⟨rfl, rfl⟩;cases ok with
    | false =>
     go_wp2_with fail;go_ret;rw [HG2.out];exact ⟨rfl, by first | exact HY2.out | (rw [hBe]; exact HY2.out)⟩
    | true =>
     cases more with
     | false =>
      go_wp2_with fail;go_ret;rw [HG2.out];exact ⟨rfl, by first | exact HY2.out | (rw [hBe]; exact HY2.out)⟩
     | true =>
      go_wp2_with fail;go_roundw
      case rel => exact ⟨K + 1, rest, by go_num, by omega, by omega, by show _ = _; rw [HG2.out]; rfl, HX2.out, HY2.out⟩
      case measure => simp [intOf]; omega
   ·have hltI : ¬ (K : Int) < 4 := by omega
    have hg := HG.out;rw [show 4 - K = 0 by omega] at hg;have HG2 := Lib.hid hg; clear hg
    go_wp2_with fail;go_ret;rw [HG2.out];exact ⟨rfl, by first | exact HY.out | (rw [hBe]; exact HY.out)⟩
 ·have hq : rowOk r l = false := by unfold rowOk; rw [decide_eq_false h32, Bool.false_and]
  rw [hq];have hI : (32 : Int) < (l.length : Int) := by omega
  go_enter Tryz.func214, Tryz.ntmps214;go_wp2_with fail;go_ret;exact ⟨rfl, Below.refl _ _⟩
theorem ent_stream1 : Ent 215 := fun args w => enters_of Tryz.func215 (by kernel_rfl) rfl args w
theorem ent_pattern1 : Ent 227 := fun args w => enters_of Tryz.func227 (by kernel_rfl) rfl args w
set_option maxHeartbeats 1000000 in
set_option maxRecDepth 100000 in
theorem ug (l : List UInt8) (hl : l.length <= 9223372036854775807) (w : World) :
 Calls Tryz.prog 175 #[.string (str l)] w fun e w' => e = .returned (.bool (streamP l)) /\ Below w.heap.size w w' := by
 have HC := fun W => Ym ent_stream1 (fun x last W hx => stream1_any x last hx W) l hl W
 rw [show rowOk rS l = streamP l from rfl] at HC;go_enter Tryz.func175, Tryz.ntmps175;go_wp2_with fail;refine (HC _).mono ?_;rintro _ w1 ⟨rfl, hb⟩;go_wp2_with fail;go_ret;exact ⟨rfl, hb⟩
set_option maxHeartbeats 1000000 in
set_option maxRecDepth 100000 in
theorem pattern_any (l : List UInt8) (hl : l.length <= 9223372036854775807) (w : World) :
 Calls Tryz.prog 206 #[.string (str l)] w fun e w' => e = .returned (.bool (patP l)) /\ Below w.heap.size w w' := by
 have HC := fun W => Ym ent_pattern1 (fun x last W hx => pattern1_any x last hx W) l hl W
 rw [show rowOk rP l = patP l from rfl] at HC;go_enter Tryz.func206, Tryz.ntmps206;go_wp2_with fail;refine (HC _).mono ?_;rintro _ w1 ⟨rfl, hb⟩;go_wp2_with fail;go_ret;exact ⟨rfl, hb⟩
theorem eq_one (a : List UInt8) : ((str a).toList == [42]) = (a == one) := by rw [zL]; rfl
theorem eq_many (a : List UInt8) : ((str a).toList == [42, 42]) = (a == many) := by rw [zL]; rfl
theorem all_step {l : List UInt8} {k : Nat} {b : UInt8} (h : l[k]? = some b) : (l.drop k).all okB = (okB b && (l.drop (k + 1)).all okB) := by
 obtain ⟨hk, rfl⟩ := List.getElem?_eq_some_iff.1 h;rw [List.drop_eq_getElem_cons hk, List.all_cons]
theorem all_on {l : List UInt8} {K y : Nat} (HP : l.all okB = (l.drop K).all okB) (HS : (l.drop K).all okB = (okN y && (l.drop (K + 1)).all okB))
 (h : (97 <= y /\ y <= 122) \/ (48 <= y /\ y <= 57) \/ y = 45 \/ y = 95) : l.all okB = (l.drop (K + 1)).all okB := by
 rw [(Za y).2 h, Bool.true_and] at HS; exact HP.trans HS
theorem all_off {l : List UInt8} {K y : Nat} (HP : l.all okB = (l.drop K).all okB) (HS : (l.drop K).all okB = (okN y && (l.drop (K + 1)).all okB))
 (h : ¬ ((97 <= y /\ y <= 122) \/ (48 <= y /\ y <= 57) \/ y = 45 \/ y = 95)) : plainP l = false := by
 have : okN y = false := by
  cases ho : okN y with
  | false => rfl
  | true => exact absurd ((Za y).1 ho) h
 rw [this, Bool.false_and] at HS;unfold plainP;rw [HP, HS, Bool.and_false]
theorem plain_end {l : List UInt8} {K : Nat} (HP : l.all okB = (l.drop K).all okB) (h : l.length <= K) : plainP l = decide (0 < l.length) := by
 rw [List.drop_of_length_le h] at HP;unfold plainP;rw [HP];cases l with
 | nil => rfl
 | cons b l =>
  have : 0 < (b :: l).length := by simp
  rw [decide_eq_true this]; rfl
set_option maxHeartbeats 2000000 in
set_option maxRecDepth 100000 in
theorem uE (l : List UInt8) (hl : l.length <= 1000) (w : World) :
 Calls Tryz.prog 132 #[.string (str l)] w fun e w' => e = .returned (.bool (plainP l)) /\ w = w' := by
 have hsz : (str l).size = l.length := zn l;go_enter Tryz.func132, Tryz.ntmps132;go_wp2_with fail;go_loopw [3, 4] (fun n _ wr => ∃ K : Nat, n = .int .i64 (K : Int) /\ K <= l.length /\ Hid (l.all okB = (l.drop K).all okB) /\ wr = w) (fun n _ _ => l.length - (intOf n).toNat)
 case atStart => exact ⟨0, rfl, Nat.zero_le _, rfl, rfl⟩
 case round =>
  obtain ⟨K, rfl, hK, HP, rfl⟩ := hrel;by_cases hlt : K < l.length
  ·have hltI : (K : Int) < ((str l).size : Int) := by omega
   have hk' : K < (str l).size := by omega
   obtain ⟨b, hb⟩ : ∃ b, l[K]? = some b := ⟨_, List.getElem?_eq_getElem hlt⟩;have hs := all_step hb;have hg : ((str l)[K]'hk') = b := jv hb hk';unfold okB at hs;obtain ⟨y, hy⟩ : ∃ y, b.toNat = y := ⟨_, rfl⟩;rw [hy] at hs;have HS := Lib.hid (show (l.drop K).all okB = (okN y && (l.drop (K + 1)).all okB) from hs); clear hs
   have hw1 : IntKind.i64.wrap ((K : Int) + 1) = (K : Int) + 1 := IntWalk.i64_in _ (by omega);by_cases hy0 : (97 <= y /\ y <= 122) \/ (48 <= y /\ y <= 57) \/ y = 45 \/ y = 95
   ·have HP2 := Lib.hid (all_on HP.out HS.out hy0)
    go_wp2_with fail
    all_goals (try simp only [bne_iff_ne, bne_eq_false_iff_eq, ne_eq] at *)
    all_goals first
     | (exfalso; omega)
     | (exact ⟨⟨K + 1, by go_num, by omega, HP2.out, by first | trivial | rfl⟩, by simp [intOf]; omega⟩)
   ·have ho := all_off HP.out HS.out hy0
    go_wp2_with fail
    all_goals (try simp only [bne_iff_ne, bne_eq_false_iff_eq, ne_eq] at *)
    all_goals first
     | (exfalso; omega)
     | (go_ret; first | exact ⟨rfl, rfl⟩ | (rw [ho]; exact ⟨rfl, rfl⟩))
  ·have hltI : ¬ (K : Int) < ((str l).size : Int) := by omega
   have hp := plain_end HP.out (by omega);go_wp2_with fail;go_ret
   first | exact ⟨rfl, rfl⟩ | (rw [hp]; exact ⟨rfl, rfl⟩)
def glue (cur : List UInt8) (P : List (List UInt8)) : List (List UInt8) := (cur ++ hd P) :: P.tail
theorem glue_nil (l : List UInt8) : glue [] (parts l) = parts l := by
 have := je l;cases h : parts l with
 | nil => exact absurd h this
 | cons x xs => rfl
theorem glue_slash {l : List UInt8} {k : Nat} (h : l[k]? = some 47) (cur : List UInt8) : glue cur (parts (l.drop k)) = cur :: glue [] (parts (l.drop (k + 1))) := by
 obtain ⟨hk, hb⟩ := List.getElem?_eq_some_iff.1 h;rw [List.drop_eq_getElem_cons hk, hb, glue_nil];simp [parts, glue, hd]
theorem glue_byte {l : List UInt8} {k : Nat} {b : UInt8} (h : l[k]? = some b) (hb : b ≠ 47) (cur : List UInt8) : glue cur (parts (l.drop k)) = glue (cur ++ [b]) (parts (l.drop (k + 1))) := by
 obtain ⟨hk, rfl⟩ := List.getElem?_eq_some_iff.1 h;rw [List.drop_eq_getElem_cons hk];have : (l[k] == 47) = false := beq_eq_false_iff_ne.2 hb;have hne := je (l.drop (k + 1));rw [show parts (l[k] :: l.drop (k + 1)) = if l[k] == 47 then [] :: parts (l.drop (k + 1)) else onFirst l[k] (parts (l.drop (k + 1))) from rfl, this];simp only [Bool.false_eq_true, if_false];cases hp : parts (l.drop (k + 1)) with
 | nil => exact absurd hp hne
 | cons x xs => simp [onFirst, glue, hd]
theorem glue_end (cur l : List UInt8) {k : Nat} (h : l.length <= k) : glue cur (parts (l.drop k)) = [cur] := by
 rw [List.drop_of_length_le h]; simp [parts, glue, hd]
theorem Tryz.info9 : (Tryz.prog.info? 9).map (fun i => (i.zero, i.size, i.bytes)) = some (some (.string ⟨#[]⟩), 1, 16) := by kernel_rfl
theorem jq (s : ByteArray) : ∀ u ∈ [Value.string s], u.oneCell' = true := by intro u hu; simp at hu; subst hu; rfl
theorem str_one {l : List UInt8} {k : Nat} {b : UInt8} (h : l[k]? = some b) (cur : List UInt8) : str cur ++ (str l).extract k (k + 1) = str (cur ++ [b]) := by
 obtain ⟨hk, rfl⟩ := List.getElem?_eq_some_iff.1 h;rw [qE, yS, show k + 1 - k = 1 by omega, List.drop_eq_getElem_cons hk];rfl
def Pt (w : World) (v : Value) (P : List (List UInt8)) : Prop :=
 ∃ b off cap, v = .slice (some ⟨b, off, none⟩) P.length cap /\ P.length <= cap /\ ∀ j x, P[j]? = some x -> w.cell? ⟨b, off + j, none⟩ = some (sv x)
theorem pt_owns {w : World} {base n : Nat} {v : Value} {P : List (List UInt8)} (h : w.ownsRow base 9 1 v n (P.map sv)) (hn : P.length = n) (h0 : 0 < n) : Pt w v P := by
 obtain ⟨hl, h⟩ := h;rcases h with ⟨rfl, h0'⟩ | ⟨g, cap, cur, rfl, _, hg, h1, h2, h3, ht⟩
 ·omega
 ·subst hn
  rw [Nat.mul_one] at ht;refine ⟨g, 0, cap, rfl, by omega, fun j x hj => ?_⟩;have := Lib.cells_of_row hg P.length j (sv x) (by rw [ht, List.getElem?_map, hj]; rfl);rw [Lib.addr_add] at this;exact this
set_option maxHeartbeats 2000000 in
set_option maxRecDepth 100000 in
theorem split_any (l : List UInt8) (hl : l.length <= 1000) (w : World) :
 Calls Tryz.prog 190 #[.string (str l), .int .u8 47] w fun e w' => ∃ v, e = .returned v /\ Pt w' v (parts l) /\ Below w.heap.size w w' := by
 obtain ⟨i0, hi, hz0, hz1, hz2⟩ := info_parts Tryz.info9;have hsz : (str l).size = l.length := zn l;go_enter Tryz.func190, Tryz.ntmps190;go_wp2_with fail;go_loopw [5, 6, 7] (fun out c k wr => ∃ (K : Nat) (n : Nat) (done : List (List UInt8)) (cur : List UInt8), k = .int .i64 (K : Int) /\ c = .string (str cur) /\ K <= l.length /\ n <= K /\ cur.length <= K /\ Hid (done.length = n) /\
  Hid (parts l = done ++ glue cur (parts (l.drop K))) /\ wr.ownsRow w.heap.size 9 1 out n (done.map sv) /\ Below w.heap.size w wr) (fun _ _ k _ => l.length - (intOf k).toNat)
 case atStart => exact ⟨0, 0, [], [], rfl, rfl, Nat.zero_le _, Nat.le_refl _, Nat.le_refl _, rfl, (glue_nil l).symm, World.ownsRow_nil _ _ _ _, Below.refl _ _⟩
 case round =>
  obtain ⟨K, n, done, cur, rfl, rfl, hK, hn, hcur, HD, HG, hown, hbel⟩ := hrel;have hc4 : (n + 1) * 16 <= 140737488355328 := by omega
  have hc5 : w.heap.size <= (wr.alloc (.cells #[.string (str cur)] 9)).heap.size := by have := hbel.size; simp; omega
  have HC4 := Lib.hid hc4; clear hc4
  have HC5 := Lib.hid hc5; clear hc5
  by_cases hlt : K < l.length
  ·have hltI : (K : Int) < ((str l).size : Int) := by omega
   have hk' : K < (str l).size := by omega
   obtain ⟨b, hb⟩ : ∃ b, l[K]? = some b := ⟨_, List.getElem?_eq_getElem hlt⟩;have hg : ((str l)[K]'hk') = b := jv hb hk';have hw1 : IntKind.i64.wrap ((K : Int) + 1) = (K : Int) + 1 := IntWalk.i64_in _ (by omega);by_cases h47 : b = 47
   ·subst h47
    have HG2 := Lib.hid (HG.out.trans (congrArg (done ++ ·) (glue_slash hb cur)));go_wp2_with (at_builtin; refine wpList_append_own _ rfl _ _ 22 rfl w.heap.size 9 i0 (.string ⟨#[]⟩) 1 16 Tryz.underlying22 hi hz0 hz1 hz2 rfl (by decide) _ _ _ rfl (hown.alloc _) ⟨wr.heap.size, 0, none⟩ 1 1 [.string (str cur)] rfl rfl (qZ _ _ _) (jq _) (by unfold maxLen; omega) HC4.out HC5.out ?_; intro v' w1 hown' hgrow hnn; clear hnn)
    have hb1 : Below w.heap.size w w1 := (hbel.alloc hbel.size _).grown hgrow HC5.out (qw hown);clear hgrow hown;go_wp2_with fail;refine ⟨⟨K + 1, n + 1, done ++ [cur], [], by go_num, rfl, by omega, by omega, by simp, ?_, ?_, ?_, hb1⟩, by simp [intOf]; omega⟩
    ·show _ = _
     rw [List.length_append, HD.out]; rfl
    ·show _ = _
     rw [HG2.out]; simp
    ·rw [List.map_append]; exact hown'
   ·have HG2 := Lib.hid (HG.out.trans (congrArg (done ++ ·) (glue_byte hb h47 cur)))
    have hbI : ((b.toNat : Int) == 47) = false := by
     rw [beq_eq_false_iff_ne]; intro h
     exact h47 (UInt8.toNat_inj.1 (by show b.toNat = 47; omega))
    have hsum := str_one hb cur;have hs1 : (str cur).size <= 1000 := by rw [zn]; omega
    have hs2 : ((str l).extract K (K + 1)).size <= 1 := by rw [ByteArray.size_extract]; omega
    go_wp2_with fail;exact ⟨⟨K + 1, n, done, cur ++ [b], by go_num, rfl, by omega, by omega, by simp; omega, HD.out, HG2.out, hown, hbel⟩, by simp [intOf]; omega⟩
  ·have hltI : ¬ (K : Int) < ((str l).size : Int) := by omega
   have HG2 := Lib.hid (HG.out.trans (congrArg (done ++ ·) (glue_end cur l (by omega))));go_wp2_with (at_builtin; refine wpList_append_own _ rfl _ _ 22 rfl w.heap.size 9 i0 (.string ⟨#[]⟩) 1 16 Tryz.underlying22 hi hz0 hz1 hz2 rfl (by decide) _ _ _ rfl (hown.alloc _) ⟨wr.heap.size, 0, none⟩ 1 1 [.string (str cur)] rfl rfl (qZ _ _ _) (jq _) (by unfold maxLen; omega) HC4.out HC5.out ?_; intro v' w1 hown' hgrow hnn; clear hnn)
   have hb1 : Below w.heap.size w w1 := (hbel.alloc hbel.size _).grown hgrow HC5.out (qw hown);go_ret;refine ⟨_, rfl, ?_, hb1⟩;rw [HG2.out];exact pt_owns (by rw [List.map_append]; exact hown') (by rw [List.length_append, HD.out]; rfl) (by omega)
set_option maxHeartbeats 1000000 in
set_option maxRecDepth 100000 in
theorem Yc (l : List UInt8) (hl : l.length <= 1000) (w : World) :
 Calls Tryz.prog 131 #[.string (str l)] w fun e w' => ∃ v, e = .returned v /\ Pt w' v (parts l) /\ Below w.heap.size w w' := by
 go_enter Tryz.func131, Tryz.ntmps131;go_wp2_with fail;refine (split_any l hl _).mono ?_;rintro _ w1 ⟨v, rfl, hp, hb⟩;go_wp2_with fail;go_ret;exact ⟨v, rfl, hp, hb⟩
end Go.Proofs.YtaidhoepnefcpaaGreat.P8
