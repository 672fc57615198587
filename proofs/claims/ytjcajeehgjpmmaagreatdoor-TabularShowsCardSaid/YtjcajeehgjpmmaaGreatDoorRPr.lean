/-
  Layer 5, the program's side: what tells what is wrong with each state that a rule is for, each expression, each guard.
-/
import Derived.WalkMore
import Derived.Test.YtjcajeehgjpmmaaGreatDoorRPn
namespace Go.Proofs.YtjcajeehgjpmmaaGreatDoor.E
open Go Go.RowKit B K
set_option linter.unusedVariables false
def kn (o : Int) : Bool := decide (0 <= takes o)
def tk (o : Int) : Int := if 0 <= takes o then takes o else 0
theorem ops_all (o : Int) : (o = 1 \/ o = 2 \/ o = 3) \/ (o = 4 \/ o = 5) \/ (o = 6 \/ o = 7 \/ o = 8 \/ o = 9 \/ o = 10 \/ o = 11 \/ o = 12 \/ o = 13 \/ o = 14 \/ o = 15) \/ o = 16 \/ (o < 1 \/ 16 < o) := by omega
set_option maxHeartbeats 400000 in
theorem takes_none (o : Int) (w : World) (h : o < 1 \/ 16 < o) : Calls Tryz.prog 154 #[.int .i64 o] w fun e w' => e = .returned (.tuple #[.int .i64 0, .bool false]) /\ w = w' := by
 have b1 : (o == 1) = false := by simp; omega
 have b2 : (o == 2) = false := by simp; omega
 have b3 : (o == 3) = false := by simp; omega
 have b4 : (o == 4) = false := by simp; omega
 have b5 : (o == 5) = false := by simp; omega
 have b6 : (o == 6) = false := by simp; omega
 have b7 : (o == 7) = false := by simp; omega
 have b8 : (o == 8) = false := by simp; omega
 have b9 : (o == 9) = false := by simp; omega
 have b10 : (o == 10) = false := by simp; omega
 have b11 : (o == 11) = false := by simp; omega
 have b12 : (o == 12) = false := by simp; omega
 have b13 : (o == 13) = false := by simp; omega
 have b14 : (o == 14) = false := by simp; omega
 have b15 : (o == 15) = false := by simp; omega
 have b16 : (o == 16) = false := by simp; omega
 clear h;go_enter Tryz.func154, Tryz.ntmps154;go_wp2_with fail;go_ret2;exact ⟨rfl, rfl⟩
set_option maxHeartbeats 1600000 in
theorem takes_any (o : Int) (w : World) : Calls Tryz.prog 154 #[.int .i64 o] w fun e w' => e = .returned (.tuple #[.int .i64 (tk o), .bool (kn o)]) /\ w = w' := by
 rcases ops_all o with (rfl | rfl | rfl) | (rfl | rfl) | (rfl | rfl | rfl | rfl | rfl | rfl | rfl | rfl | rfl | rfl) | rfl | h
 all_goals first
  | (have ht : takes o = -1 := by (unfold takes; rw [if_pos h])
     have h1 : tk o = 0 := by (unfold tk; rw [ht]; rfl)
     have h2 : kn o = false := by (unfold kn; rw [ht]; rfl)
     rw [h1, h2];exact takes_none o w h)
  | (go_enter Tryz.func154, Tryz.ntmps154
     go_wp2_with fail;go_ret2;exact ⟨rfl, rfl⟩)
set_option maxHeartbeats 400000 in
theorem isValue_any (n : Int) (w : World) : Calls Tryz.prog 184 #[.int .i64 n] w fun e w' => e = .returned (.bool (isVal n)) /\ w = w' := by
 by_cases h1 : -1099511627776 <= n
 ·by_cases h2 : n <= 1099511627776
  ·have hv : isVal n = true := (isVal_iff n).2 ⟨h1, h2⟩
   rw [hv]; clear hv
   go_enter Tryz.func184, Tryz.ntmps184;go_wp2_with fail;go_ret;exact ⟨rfl, rfl⟩
  ·have hv : isVal n = false := (isVal_not n).2 (by omega)
   have b2 : decide (n <= 1099511627776) = false := decide_eq_false h2;rw [hv]; clear hv h2
   go_enter Tryz.func184, Tryz.ntmps184;go_wp2_with fail;go_ret;exact ⟨rfl, rfl⟩
 ·have hv : isVal n = false := (isVal_not n).2 (by omega)
  have b1 : decide (-1099511627776 <= n) = false := decide_eq_false h1;rw [hv]; clear hv h1
  go_enter Tryz.func184, Tryz.ntmps184;go_wp2_with fail;go_ret;exact ⟨rfl, rfl⟩
set_option maxHeartbeats 800000 in
theorem fits_any (o x nv na : Int) (w : World) :
 Calls Tryz.prog 155 #[.agg #[.int .i64 o, .int .i64 x], .int .i64 nv, .int .i64 na] w fun e w' => e = .returned (.bool (right (o, x) nv na)) /\ Below w.heap.size w w' := by
 by_cases o1 : o = 1
 ·subst o1
  rw [right_one];go_enter Tryz.func155, Tryz.ntmps155;go_wp2_with fail;refine (isValue_any x _).mono ?_;rintro _ w1 ⟨rfl, rfl⟩;go_wp2_with fail;go_ret;exact ⟨rfl, (Below.refl _ _).alloc (Nat.le_refl _) _⟩
 by_cases o2 : o = 2
 ·subst o2
  rw [right_two];by_cases x0 : 0 <= x
  ·have hd : decide (0 <= x /\ x < nv) = decide (x < nv) := by (rw [Bool.eq_iff_iff]; simp [x0])
   rw [hd]; clear hd
   go_enter Tryz.func155, Tryz.ntmps155;go_wp2_with fail;go_ret;exact ⟨rfl, (Below.refl _ _).alloc (Nat.le_refl _) _⟩
  ·have hd : decide (0 <= x /\ x < nv) = false := decide_eq_false (by omega)
   have b0 : decide (0 <= x) = false := decide_eq_false x0;rw [hd]; clear hd
   go_enter Tryz.func155, Tryz.ntmps155;go_wp2_with fail;go_ret;exact ⟨rfl, (Below.refl _ _).alloc (Nat.le_refl _) _⟩
 by_cases o3 : o = 3
 ·subst o3
  rw [right_three];by_cases x0 : 0 <= x
  ·have hd : decide (0 <= x /\ x < na) = decide (x < na) := by (rw [Bool.eq_iff_iff]; simp [x0])
   rw [hd]; clear hd
   go_enter Tryz.func155, Tryz.ntmps155;go_wp2_with fail;go_ret;exact ⟨rfl, (Below.refl _ _).alloc (Nat.le_refl _) _⟩
  ·have hd : decide (0 <= x /\ x < na) = false := decide_eq_false (by omega)
   have b0 : decide (0 <= x) = false := decide_eq_false x0;rw [hd]; clear hd
   go_enter Tryz.func155, Tryz.ntmps155;go_wp2_with fail;go_ret;exact ⟨rfl, (Below.refl _ _).alloc (Nat.le_refl _) _⟩
 rw [right_other o x nv na o1 o2 o3];have b1 : (o == 1) = false := by simp [o1]
 have b2 : (o == 2) = false := by simp [o2]
 have b3 : (o == 3) = false := by simp [o3]
 have hx : decide (x = 0) = (x == 0) := by (rw [Bool.eq_iff_iff]; simp)
 rw [hx];clear o1 o2 o3 hx;go_enter Tryz.func155, Tryz.ntmps155;go_wp2_with fail;go_ret;exact ⟨rfl, (Below.refl _ _).alloc (Nat.le_refl _) _⟩
set_option maxHeartbeats 1000000 in
theorem checkLoop_any (code : List In) (v : Value) (nv na : Int) (w : World) (hs : SlI w v code) (hl : code.length <= 31) (hv : ¬ nv < 0) (ha : ¬ na < 0) :
 Calls Tryz.prog 120 #[v, .int .i64 nv, .int .i64 na] w fun e w' => e = .returned (.tuple #[.int .i64 (chk nv na code 0 0).1, .int .i64 (chk nv na code 0 0).2]) /\ Below w.heap.size w w' := by
 have HS := Lib.hid hs;obtain ⟨a, cap, rfl, -⟩ := hs;have HL := Lib.hid hl;obtain ⟨n, hN⟩ : ∃ n, code.length = n := ⟨_, rfl⟩;rw [hN] at HL hl;have HN := Lib.hid hN;rw [hN] at HS ⊢;have hl' : ¬ 31 < (n : Int) := by omega
 have bv : decide (nv < 0) = false := decide_eq_false hv;have ba : decide (na < 0) = false := decide_eq_false ha;clear hN hl hv ha;go_enter Tryz.func120, Tryz.ntmps120;go_wp2_with fail;go_step3
 go_wp2_with fail;go_step3
 go_wp2_with fail;go_loopw [8, 9, 10, 11, 12] (fun k r e _ _ wr => ∃ (R : Int) (K : Nat), r = .int .i64 R /\ k = .int .i64 (K : Int) /\ e = .int .i64 0 /\ K <= n /\ 0 <= R /\ R <= K /\ Hid (chk nv na (code.drop K) K R = chk nv na code 0 0) /\ Hid (Below w.heap.size w wr)) (fun k _ _ _ _ _ => n - (intOf k).toNat)
 case atStart => exact ⟨0, 0, rfl, rfl, rfl, Nat.zero_le _, by omega, by omega, rfl, Below.refl _ _⟩
 case round =>
  obtain ⟨R, K, rfl, rfl, rfl, hK, hR0, hR1, HD, HBE⟩ := hrel;by_cases hlt : K < n
  ·obtain ⟨i, hi⟩ : ∃ i, code[K]? = some i := ⟨_, List.getElem?_eq_getElem (by rw [HN.out]; exact hlt)⟩
   obtain ⟨b, off, rfl, h1, h2⟩ := (HS.out.below HBE.out).at hi;obtain ⟨T, hT⟩ : ∃ T, takes i.1 = T := ⟨_, rfl⟩;have hr := takes_range i.1;have hd := chk_at nv na code K i hi R;rw [hT] at hr hd;rw [HD.out] at hd;have htk : tk i.1 = if 0 <= T then T else 0 := by unfold tk; rw [hT]
   have hkn : kn i.1 = decide (0 <= T) := by unfold kn; rw [hT]
   have HTK := Lib.hid htk;have HKN := Lib.hid hkn;have HDD := Lib.hid hd;have hwK : IntKind.i64.wrap ((K : Int) + 1) = (K : Int) + 1 := IntWalk.i64_in _ (by have := HL.out; omega);have hltI : (K : Int) < (n : Int) := by omega
   obtain ⟨o, x⟩ := i;clear hT hd htk hkn hi HD;by_cases hneg : T < 0
   ·have hd2 := HDD.out
    rw [if_pos hneg] at hd2;have HD2 := Lib.hid hd2; clear hd2
    have HT := Lib.hid (fun W => (show Calls Tryz.prog 154 #[.int .i64 o] W fun e w' => e = .returned (.tuple #[.int .i64 0, .bool false]) /\ W = w' by have h := takes_any o W; rw [HTK.out, HKN.out, if_neg (by omega), decide_eq_false (by omega)] at h; exact h));clear HDD HTK HKN;go_wp2_with fail;refine (HT.out _).mono ?_;rintro _ w1 ⟨rfl, rfl⟩;go_wp2_with fail;try rw [Exit.noGoto_ret]
    go_ret2;exact ⟨ret_pair HD2.out.symm, HBE.out⟩
   have hn0 : 0 <= T := by omega
   have HT := Lib.hid (fun W => (show Calls Tryz.prog 154 #[.int .i64 o] W fun e w' => e = .returned (.tuple #[.int .i64 T, .bool true]) /\ W = w' by have h := takes_any o W; rw [HTK.out, HKN.out, if_pos hn0, decide_eq_true hn0] at h; exact h));clear HTK HKN;go_wp2_with fail;refine (HT.out _).mono ?_;rintro _ w1 ⟨rfl, rfl⟩;cases hrt : right (o, x) nv na with
   | false =>
    have hd2 := HDD.out;rw [if_neg (by omega), hrt, if_pos rfl] at hd2;have HD2 := Lib.hid hd2;have HF := Lib.hid (fun W => (show Calls Tryz.prog 155 #[.agg #[.int .i64 o, .int .i64 x], .int .i64 nv, .int .i64 na] W fun e w' => e = .returned (.bool false) /\ Below W.heap.size W w' by rw [<- hrt]; exact fits_any o x nv na W));clear hd2 hrt HDD;go_wp2_with fail;refine (HF.out _).mono ?_;rintro _ w2 ⟨rfl, hb2⟩;have HBE2 := Lib.hid (HBE.out.trans (hb2.mono HBE.out.size));clear hb2;go_wp2_with fail;try rw [Exit.noGoto_ret]
    go_ret2;exact ⟨ret_pair HD2.out.symm, HBE2.out⟩
   | true =>
    have hd2 := HDD.out;rw [if_neg (by omega), hrt, if_neg (by decide)] at hd2;have HD2 := Lib.hid hd2;have HF := Lib.hid (fun W => (show Calls Tryz.prog 155 #[.agg #[.int .i64 o, .int .i64 x], .int .i64 nv, .int .i64 na] W fun e w' => e = .returned (.bool true) /\ Below W.heap.size W w' by rw [<- hrt]; exact fits_any o x nv na W));clear hd2 hrt HDD;go_wp2_with fail;refine (HF.out _).mono ?_;rintro _ w2 ⟨rfl, hb2⟩;have HBE2 := Lib.hid (HBE.out.trans (hb2.mono HBE.out.size));clear hb2;by_cases hsh : R < T
    ·have hd2 := HD2.out
     rw [if_pos hsh] at hd2;have HD3 := Lib.hid hd2; clear hd2
     go_wp2_with fail;try rw [Exit.noGoto_ret]
     go_ret2;exact ⟨ret_pair HD3.out.symm, HBE2.out⟩
    ·have hd2 := HD2.out
     rw [if_neg hsh] at hd2;have HD3 := Lib.hid hd2; clear hd2
     have hw1 : IntKind.i64.wrap (1 - T) = 1 - T := IntWalk.i64_in _ (by omega);have hw2 : IntKind.i64.wrap (R + (1 - T)) = R - T + 1 := by rw [show R + (1 - T) = R - T + 1 by omega]; exact IntWalk.i64_in _ (by have := HL.out; omega)
     go_wp2_with fail;go_roundw
     case rel => exact ⟨R - T + 1, K + 1, by go_num, by go_num, rfl, by omega, by omega, by omega, HD3.out.symm, HBE2.out⟩
     case measure => simp [intOf]; omega
  ·have hend : chk nv na code 0 0 = if R = 1 then (0, 0) else ((K : Int), 6) := by
    rw [<- HD.out, List.drop_eq_nil_of_le (by rw [HN.out]; omega)]; rfl
   have hltI : ¬ (K : Int) < (n : Int) := by omega
   have hKn : K = n := by omega
   by_cases hR : R = 1
   ·rw [if_pos hR] at hend
    have HE := Lib.hid hend; clear hend
    have bR : (R == 1) = true := by simp [hR]
    have bR' : (R != 1) = false := by simp [hR]
    clear hR hKn;go_wp2_with fail;try rw [Exit.noGoto_ret]
    go_ret2;exact ⟨ret_pair HE.out.symm, HBE.out⟩
   ·rw [if_neg hR] at hend
    have HE := Lib.hid hend; clear hend
    have bR : (R == 1) = false := by simp [hR]
    have bR' : (R != 1) = true := by simp [hR]
    clear hR hKn;go_wp2_with fail;try rw [Exit.noGoto_ret]
    go_ret2;exact ⟨ret_pair HE.out.symm, HBE.out⟩
set_option maxHeartbeats 400000 in
theorem check_any (code : List In) (v : Value) (nv na : Int) (w : World) (hs : SlI w v code) (hl : code.length <= 9223372036854775807) :
 Calls Tryz.prog 120 #[v, .int .i64 nv, .int .i64 na] w fun e w' => e = .returned (.tuple #[.int .i64 (check code nv na).1, .int .i64 (check code nv na).2]) /\ Below w.heap.size w w' := by
 by_cases hv : nv < 0
 ·have hc : check code nv na = (0, 2) := by unfold check; rw [if_pos (Or.inl hv)]
  rw [hc];obtain ⟨a, cap, rfl, -⟩ := hs;have bv : decide (nv < 0) = true := decide_eq_true hv;clear hc hl hv;go_enter Tryz.func120, Tryz.ntmps120;go_wp2_with fail;go_step3
  go_wp2_with fail;try rw [Exit.noGoto_ret]
  go_ret2;exact ⟨rfl, Below.refl _ _⟩
 by_cases ha : na < 0
 ·have hc : check code nv na = (0, 2) := by unfold check; rw [if_pos (Or.inr ha)]
  rw [hc];obtain ⟨a, cap, rfl, -⟩ := hs;have bv : decide (nv < 0) = false := decide_eq_false hv;have ba : decide (na < 0) = true := decide_eq_true ha;clear hc hl hv ha;go_enter Tryz.func120, Tryz.ntmps120;go_wp2_with fail;go_step3
  go_wp2_with fail;try rw [Exit.noGoto_ret]
  go_ret2;exact ⟨rfl, Below.refl _ _⟩
 by_cases hb : 31 < code.length
 ·have hc : check code nv na = (0, 4) := by unfold check; rw [if_neg (by omega), if_pos hb]
  rw [hc];obtain ⟨a, cap, rfl, -⟩ := hs;have hbI : 31 < (code.length : Int) := by omega
  have bv : decide (nv < 0) = false := decide_eq_false hv;have ba : decide (na < 0) = false := decide_eq_false ha;clear hc hl hb hv ha;go_enter Tryz.func120, Tryz.ntmps120;go_wp2_with fail;go_step3
  go_wp2_with fail;try rw [Exit.noGoto_ret]
  go_ret2;exact ⟨rfl, Below.refl _ _⟩
 ·have hc : check code nv na = chk nv na code 0 0 := by unfold check; rw [if_neg (by omega), if_neg hb]
  rw [hc];exact checkLoop_any code v nv na w hs (by omega) hv ha
end Go.Proofs.YtjcajeehgjpmmaaGreatDoor.E
namespace Go.Proofs.YtjcajeehgjpmmaaGreatDoor.R
open Go Go.RowKit B K E
set_option linter.unusedVariables false
theorem box_cell (w : World) (cs : Array Value) (T : TypeId) (j : Nat) (v : Value) (h : cs[j]? = some v) : (w.alloc (.cells cs T)).cell? ⟨w.heap.size, j, none⟩ = some v := by
 unfold World.cell?; rw [heap_alloc_at]; exact h
theorem below_alloc (w : World) (o : Obj) : Below w.heap.size w (w.alloc o) := (Below.refl w.heap.size w).alloc (Nat.le_refl _) _
theorem two_box (w : World) (o1 o2 : Array Value) (T1 T2 : TypeId) : ∃ W1 W2, w.alloc (.cells o1 T1) = W1 /\ W1.alloc (.cells o2 T2) = W2 /\ Below w.heap.size w W1 /\ Below w.heap.size w W2 /\
 (∀ j v, o1[j]? = some v -> W2.cell? ⟨w.heap.size, j, none⟩ = some v) /\ ∀ j v, o2[j]? = some v -> W2.cell? ⟨W1.heap.size, j, none⟩ = some v :=
 ⟨_, _, rfl, rfl, below_alloc _ _, (below_alloc w _).trans ((below_alloc _ _).mono (below_alloc w _).size), fun j v h => kept_cell (below_alloc _ _) (box_cell w o1 T1 j v h), fun j v h => box_cell _ o2 T2 j v h⟩
theorem from_any (l : List Int) (v vt c1 c2 c3 f0 f1 f3 f4 : Value) (S : Nat) (w : World) (h : SlN w v l) (hl : l.length <= 9223372036854775807) (hS : ∃ a cap, vt = .slice a S cap) :
 Calls Tryz.prog 69 #[.agg #[vt, c1, c2, c3], .agg #[f0, f1, v, f3, f4]] w fun z w' => (∃ fv, z = .returned fv /\ fv.oneCell' = true /\ WrongF w' fv l.length (fromBad S l)) /\ Below w.heap.size w w' := by
 obtain ⟨W1, W2, hW1, hW2, hB1, hB2, q1, q2⟩ := two_box w #[vt, c1, c2, c3] #[f0, f1, v, f3, f4] 26 44;have HF : Hid (WrongF W2 (.func (.func 112) #[] #[.pointer (some ⟨W1.heap.size, 0, none⟩), .pointer (some ⟨w.heap.size, 0, none⟩)]) l.length (fromBad S l)) :=
  Lib.hid ⟨_, _, rfl, ent_from, fun W hW k hk => from1_any l v vt S _ _ k W ((Sl.below h hB2).below hW) hl hk (kept_cell hW (q2 2 _ rfl)) hS (kept_cell hW (q1 0 _ rfl))⟩
 have HB := Lib.hid hB2;clear h hl hS q1 q2 hB1 hB2;go_enter Tryz.func69, Tryz.ntmps69;go_wp2_with fail;go_ret;exact ⟨⟨_, rfl, rfl, HF.out⟩, HB.out⟩
def CodeF (w : World) (fc : Value) (V : Nat) (A : Int) : Prop :=
 ∃ gt gr a cap, fc = .func (.func 146) #[] #[.pointer (some ⟨gt, 0, none⟩), .pointer (some ⟨gr, 0, none⟩)] /\ w.cell? ⟨gt, 1, none⟩ = some (.slice a V cap) /\ w.cell? ⟨gr, 1, none⟩ = some (.int .i64 A)
theorem CodeF.below {w w' : World} {fc : Value} {V : Nat} {A : Int} (h : CodeF w fc V A) (hb : Below w.heap.size w w') : CodeF w' fc V A := by
 obtain ⟨gt, gr, a, cap, rfl, h1, h2⟩ := h;exact ⟨gt, gr, a, cap, rfl, kept_cell hb h1, kept_cell hb h2⟩
theorem expr1_any (code : List In) (v : Value) (V : Nat) (A : Int) (gt gr : Nat) (a : Option Addr) (cap : Nat) (w : World) (h : SlI w v code) (hl : code.length <= 9223372036854775807) (h1 : w.cell? ⟨gt, 1, none⟩ = some (.slice a V cap)) (h2 : w.cell? ⟨gr, 1, none⟩ = some (.int .i64 A)) :
 Calls Tryz.prog 146 #[v, .pointer (some ⟨gt, 0, none⟩), .pointer (some ⟨gr, 0, none⟩)] w fun z w' => z = .returned (.int .i64 (check code V A).2) /\ Below w.heap.size w w' := by
 have HC := Lib.hid (check_any code v V A w h hl);obtain ⟨av, capv, rfl, -⟩ := h;obtain ⟨N, hN⟩ : ∃ N, code.length = N := ⟨_, rfl⟩;rw [hN] at HC ⊢;obtain ⟨⟨x1, x2⟩, hx⟩ : ∃ x, check code V A = x := ⟨_, rfl⟩;rw [hx] at HC ⊢;clear hN hx hl;go_enter Tryz.func146, Tryz.ntmps146;go_wp2_with (go_at_call 120; refine HC.out.mono ?_; rintro _ w1 ⟨rfl, hb1⟩; have HB1 := Lib.hid hb1; clear hb1)
 go_ret;exact ⟨rfl, HB1.out⟩
theorem expressions_any (V : Nat) (A : Int) (c0 vv c2 c3 f0 f2 f3 f4 : Value) (w : World) (hV : ∃ a cap, vv = .slice a V cap) :
 Calls Tryz.prog 115 #[.agg #[c0, vv, c2, c3], .agg #[f0, .int .i64 A, f2, f3, f4]] w fun z w' => (∃ fc, z = .returned fc /\ CodeF w' fc V A) /\ Below w.heap.size w w' := by
 obtain ⟨a, cap, rfl⟩ := hV;obtain ⟨W1, W2, hW1, hW2, hB1, hB2, q1, q2⟩ := two_box w #[c0, .slice a V cap, c2, c3] #[f0, .int .i64 A, f2, f3, f4] 26 44;have HF : Hid (CodeF W2 (.func (.func 146) #[] #[.pointer (some ⟨w.heap.size, 0, none⟩), .pointer (some ⟨W1.heap.size, 0, none⟩)]) V A) :=
  Lib.hid ⟨_, _, _, _, rfl, q1 1 _ rfl, q2 1 _ rfl⟩
 have HB := Lib.hid hB2;clear q1 q2 hB1 hB2;go_enter Tryz.func115, Tryz.ntmps115;go_wp2_with fail;go_ret;exact ⟨⟨_, rfl, HF.out⟩, HB.out⟩
set_option maxHeartbeats 1000000 in
theorem guards1_any (l : List Gd) (v fc : Value) (V : Nat) (A : Int) (g gc k : Nat) (w : World) (h : SlOf w 2 (GdIs w) v l) (hw : ∀ x ∈ l, GdWf x) (hk : k < l.length) (hg : w.cell? ⟨g, 3, none⟩ = some v) (hfc : w.cell? ⟨gc, 0, none⟩ = some fc) (hF : CodeF w fc V A) :
 Calls Tryz.prog 116 #[.int .i64 (k : Int), .pointer (some ⟨g, 0, none⟩), .pointer (some ⟨gc, 0, none⟩)] w fun z w' => z = .returned (.int .i64 (guardBad V A l k)) /\ Below w.heap.size w w' := by
 obtain ⟨x, hx⟩ : ∃ x, l[k]? = some x := ⟨_, List.getElem?_eq_getElem hk⟩;obtain ⟨a, cap, rfl, h⟩ := h.open;obtain ⟨b, off, ea, cs, -, ⟨tv, rfl, hcode⟩, hc⟩ := h.at hx;subst ea;have hxw := hw x (List.mem_of_getElem? hx);have hres : guardBad V A l k = if x.code < 16 \/ 63 < x.code then 3 else (check x.test V A).2 := by unfold guardBad; rw [hx]
 rw [hres];obtain ⟨N, hN⟩ : ∃ N, l.length = N := ⟨_, rfl⟩;rw [hN] at hk hg;have hkI : (k : Int) < (N : Int) := by omega
 have k0 : w.cell? ⟨b, off + k * 2, none⟩ = some (.int .i64 x.code) := hc 0 _ rfl;have k1 : w.cell? ⟨b, off + k * 2 + 1, none⟩ = some tv := hc 1 _ rfl;obtain ⟨at_, capt, rfl, htt⟩ := hcode;have hcode : SlI w (.slice at_ x.test.length capt) x.test := ⟨at_, capt, rfl, htt⟩;obtain ⟨W1, hW1⟩ : ∃ W1, w.alloc (.cells #[.int .i64 x.code, .slice at_ x.test.length capt] 56) = W1 := ⟨_, rfl⟩;have hB1 : Below w.heap.size w W1 := by rw [<- hW1]; exact below_alloc _ _
 have d0 : W1.cell? ⟨w.heap.size, 0, none⟩ = some (.int .i64 x.code) := by rw [<- hW1]; exact box_cell _ _ _ _ _ rfl
 have d1 : W1.cell? ⟨w.heap.size, 1, none⟩ = some (.slice at_ x.test.length capt) := by rw [<- hW1]; exact box_cell _ _ _ _ _ rfl
 have d2 := kept_cell hB1 hfc;obtain ⟨gt, gr, a2, cap2, rfl, e1, e2⟩ := hF.below hB1;have HC := Lib.hid (expr1_any x.test _ V A gt gr a2 cap2 W1 (hcode.below hB1) hxw.2.2 e1 e2);have HB := Lib.hid hB1;obtain ⟨M, hM⟩ : ∃ M, x.test.length = M := ⟨_, rfl⟩;obtain ⟨cd, hcd⟩ : ∃ cd, x.code = cd := ⟨_, rfl⟩;obtain ⟨E, hE⟩ : ∃ E, (check x.test V A).2 = E := ⟨_, rfl⟩;rw [hM, hE] at HC;rw [hM] at hW1 d1 k1;rw [hcd] at hW1 d0 k0 ⊢;rw [hE];clear hx h hw hres hN hcode htt hB1 hfc hF hxw hc hM hcd e1 e2 hE;by_cases h1 : cd < 16
 ·rw [if_pos (Or.inl h1)]
  go_enter Tryz.func116, Tryz.ntmps116;go_wp2_with fail;go_ret;exact ⟨rfl, HB.out⟩
 ·by_cases h2 : 63 < cd
  ·rw [if_pos (Or.inr h2)]
   go_enter Tryz.func116, Tryz.ntmps116;go_wp2_with fail;go_ret;exact ⟨rfl, HB.out⟩
  ·rw [if_neg (by omega)]
   go_enter Tryz.func116, Tryz.ntmps116;go_wp2_with (go_at_call 146; refine HC.out.mono ?_; rintro _ w1 ⟨rfl, hb1⟩; have HB1 := Lib.hid (HB.out.trans (hb1.mono HB.out.size)); clear hb1)
   go_ret;exact ⟨rfl, HB1.out⟩
theorem ent_guards : Ent 116 := fun args w => enters_of Tryz.func116 (by kernel_rfl) rfl args w
set_option maxHeartbeats 1000000 in
theorem guards_any (l : List Gd) (v c0 vv c2 c3 f0 f2 f4 : Value) (V : Nat) (A : Int) (w : World) (h : SlOf w 2 (GdIs w) v l) (hw : ∀ x ∈ l, GdWf x) (hV : ∃ a cap, vv = .slice a V cap) :
 Calls Tryz.prog 70 #[.agg #[c0, vv, c2, c3], .agg #[f0, .int .i64 A, f2, v, f4]] w fun z w' => (∃ fv, z = .returned fv /\ fv.oneCell' = true /\ WrongF w' fv l.length (guardBad V A l)) /\ Below w.heap.size w w' := by
 obtain ⟨W1, W2, hW1, hW2, hB1, hB2, q1, q2⟩ := two_box w #[c0, vv, c2, c3] #[f0, .int .i64 A, f2, v, f4] 26 44;have HX := Lib.hid (expressions_any V A c0 vv c2 c3 f0 f2 v f4 W2 hV);have H3 := Lib.hid (q2 3 _ rfl);have p0 := q1 0 _ rfl;have p1 := q1 1 _ rfl;have p2 := q1 2 _ rfl;have p3 := q1 3 _ rfl;have r0 := q2 0 _ rfl;have r1 := q2 1 _ rfl;have r2 := q2 2 _ rfl;have r3 := q2 3 _ rfl;have r4 := q2 4 _ rfl;have HB := Lib.hid hB2;have HS := Lib.hid h;have HW := Lib.hid hw;clear q1 q2 hB1 hB2 h hw hV;go_enter Tryz.func70, Tryz.ntmps70;go_wp2_with (go_at_call 115; refine HX.out.mono ?_; rintro _ w1 ⟨⟨fc, rfl, hfc⟩, hb1⟩; obtain ⟨gt, gr, a2, cap2, rfl, e1, e2⟩ := hfc; have HB1 := Lib.hid (HB.out.trans (hb1.mono HB.out.size)); have H31 := Lib.hid (kept_cell hb1 H3.out); have HE := Lib.hid (And.intro e1 e2); clear hb1 e1 e2)
 go_ret;have hw3 := below_alloc w1 (.cells #[.func (.func 146) #[] #[.pointer (some ⟨gt, 0, none⟩), .pointer (some ⟨gr, 0, none⟩)]] 158);refine ⟨⟨_, rfl, rfl, _, _, rfl, ent_guards, fun W hW k hk => ?_⟩, HB1.out.trans (hw3.mono HB1.out.size)⟩;have hWW := hw3.trans (hW.mono hw3.size);have hb := HB1.out.trans (hWW.mono HB1.out.size);refine guards1_any l v (.func (.func 146) #[] #[.pointer (some ⟨gt, 0, none⟩), .pointer (some ⟨gr, 0, none⟩)]) V A _ _ k W (HS.out.below hb (fun _ _ q => q.below hb)) HW.out hk (kept_cell hWW H31.out) (kept_cell hW (box_cell _ _ _ _ _ rfl)) ⟨gt, gr, a2, cap2, rfl, kept_cell hWW HE.out.1, kept_cell hWW HE.out.2⟩
end Go.Proofs.YtjcajeehgjpmmaaGreatDoor.R
