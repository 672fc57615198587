/-
  Layer 11, the document's answers: whether two states, two commands are the same (told for any two).
-/
import Derived.Test.YtaidhoepnefcpaaGreatP10RefF
namespace Go.Proofs.YtaidhoepnefcpaaGreat.C10
open Go Go.RowKit Go.Proofs B K P8
set_option linter.unusedVariables false
set_option maxRecDepth 100000
noncomputable def eqv {X : Type} (a b : X) : Bool := @decide (a = b) (Classical.propDecidable _)
theorem eqv_self {X : Type} (a : X) : eqv a a = true := by unfold eqv; simp
theorem eqv_false {X : Type} {a b : X} (h : ¬ a = b) : eqv a b = false := by unfold eqv; simpa using h
theorem eqv_iff {X : Type} {a b : X} : eqv a b = true ↔ a = b := by unfold eqv; simp
theorem eqv_cons {X : Type} (x y : X) (l m : List X) : eqv (x :: l) (y :: m) = (eqv x y && eqv l m) := by
 rw [Bool.eq_iff_iff, Bool.and_eq_true, eqv_iff, eqv_iff, eqv_iff, List.cons.injEq]
theorem drop_same {X : Type} {l m : List X} {x y : X} {K : Nat} (h : l[K]? = some x) (h' : m[K]? = some y) : eqv (l.drop K) (m.drop K) = (eqv x y && eqv (l.drop (K + 1)) (m.drop (K + 1))) := by
 obtain ⟨hlt, rfl⟩ := List.getElem?_eq_some_iff.1 h;obtain ⟨hlt', rfl⟩ := List.getElem?_eq_some_iff.1 h';rw [List.drop_eq_getElem_cons hlt, List.drop_eq_getElem_cons hlt', eqv_cons]
theorem drop_end {X : Type} {l m : List X} {K : Nat} (h : l.length <= K) (h' : m.length <= K) : eqv (l.drop K) (m.drop K) = true := by
 rw [List.drop_of_length_le h, List.drop_of_length_le h', eqv_self]
theorem len_apart {X : Type} {l m : List X} (h : ¬ l.length = m.length) : eqv l m = false := eqv_false fun e => h (by rw [e])
set_option maxHeartbeats 2000000 in
theorem ints_any (l m : List Int) (v v' : Value) (w : World) (h : SlN w v l) (h' : SlN w v' m) (hl : l.length <= 4611686018427387904) :
 Calls Tryz.prog 149 #[v, v'] w fun z w' => z = .returned (.bool (eqv l m)) /\ Below w.heap.size w w' := by
 obtain ⟨a, cap, rfl, hz⟩ := h.open;obtain ⟨a', cap', rfl, hz'⟩ := h'.open;by_cases hlm : l.length = m.length
 ·have HS := Lib.hid hz
  have HS' := Lib.hid hz';obtain ⟨N, hN⟩ : ∃ N, l.length = N := ⟨_, rfl⟩;have hM : m.length = N := by rw [<- hlm, hN]
  obtain ⟨r, hr⟩ : ∃ r, eqv l m = r := ⟨_, rfl⟩;have HR := Lib.hid (show r = eqv (l.drop 0) (m.drop 0) from hr.symm);rw [hr];rw [hN] at hl;rw [hN, hM];have hnn : ((N : Int) != (N : Int)) = false := by simp
  have HL := Lib.hid hl;have HN := Lib.hid hN;have HM := Lib.hid hM;clear hN hM hl h h' hz hz' hlm hr;go_enter Tryz.func149, Tryz.ntmps149;go_wp2_with fail;go_loopw [5] (fun k wr => ∃ (K : Nat), k = .int .i64 (K : Int) /\ K <= N /\ Hid (r = eqv (l.drop K) (m.drop K)) /\ Hid (Below w.heap.size w wr)) (fun k _ => N - (intOf k).toNat)
  case atStart => exact ⟨0, rfl, Nat.zero_le _, HR, Lib.hid (Below.refl _ _)⟩
  case round =>
   obtain ⟨K, rfl, hK, HJ, HB⟩ := hrel;by_cases hlt : K < N
   ·have hltI : (K : Int) < (N : Int) := by omega
    have hk0 : 0 <= (K : Int) := by omega
    have hwK := wrap_next K (by have := HL.out; omega);obtain ⟨x, hx⟩ : ∃ e, l[K]? = some e := ⟨_, List.getElem?_eq_getElem (by rw [HN.out]; exact hlt)⟩;obtain ⟨y, hy⟩ : ∃ e, m[K]? = some e := ⟨_, List.getElem?_eq_getElem (by rw [HM.out]; exact hlt)⟩;obtain ⟨b, off, ea, hc⟩ := HS.out K x hx;obtain ⟨b', off', ea', hc'⟩ := HS'.out K y hy;subst ea ea';have k0 : wr.cell? ⟨b, off + K, none⟩ = some (.int .i64 x) := kept_cell HB.out hc;have j0 : wr.cell? ⟨b', off' + K, none⟩ = some (.int .i64 y) := kept_cell HB.out hc';have hd := HJ.out;rw [drop_same hx hy] at hd;clear hc hc' hx hy;by_cases hxy : x = y
    ·subst hxy
     have hxx : (x != x) = false := by simp
     rw [eqv_self, Bool.true_and] at hd;have HD := Lib.hid hd;clear hd;go_wp2_with fail;go_quiet (fail)
     go_wp2_with fail;go_roundw
     case rel => exact ⟨K + 1, by go_num, by omega, HD, Lib.hid (below_drewN HB.out _)⟩
     case measure => simp [intOf]; omega
    ·have hxx : (x != y) = true := by simpa using hxy
     rw [eqv_false hxy, Bool.false_and] at hd;subst hd;go_wp2_with fail;go_quiet (fail)
     go_wp2_with fail;go_ret;exact ⟨rfl, below_drewN HB.out _⟩
   ·have hltI : ¬ (K : Int) < (N : Int) := by omega
    have hd := HJ.out;rw [drop_end (by rw [HN.out]; omega) (by rw [HM.out]; omega)] at hd;subst hd;go_wp2_with fail;go_ret;exact ⟨rfl, HB.out⟩
 ·rw [len_apart hlm]
  obtain ⟨N, hN⟩ : ∃ N, l.length = N := ⟨_, rfl⟩;obtain ⟨M, hM⟩ : ∃ M, m.length = M := ⟨_, rfl⟩;rw [hN, hM] at hlm ⊢;have hnn : ((N : Int) != (M : Int)) = true := by simpa using fun e => hlm (by omega)
  clear hN hM hz hz' h h';go_enter Tryz.func149, Tryz.ntmps149;go_wp2_with fail;go_ret;exact ⟨rfl, Below.refl _ _⟩
theorem str_tl (l : List UInt8) : (str l).toList = l := by rw [Lib.toList_data]; simp [str]
theorem tx_ne {a b : List UInt8} (h : ¬ a = b) : (!(str a).toList == (str b).toList) = true := by rw [str_tl, str_tl]; simpa using h
theorem tx_eq (a : List UInt8) : (!(str a).toList == (str a).toList) = false := by simp
set_option maxHeartbeats 2000000 in
theorem texts_any (l m : List (List UInt8)) (v v' : Value) (w : World) (h : SlT w v l) (h' : SlT w v' m) (hl : l.length <= 4611686018427387904) :
 Calls Tryz.prog 38 #[v, v'] w fun z w' => z = .returned (.bool (eqv l m)) /\ Below w.heap.size w w' := by
 obtain ⟨a, cap, rfl, hz⟩ := h.open;obtain ⟨a', cap', rfl, hz'⟩ := h'.open;by_cases hlm : l.length = m.length
 ·have HS := Lib.hid hz
  have HS' := Lib.hid hz';obtain ⟨N, hN⟩ : ∃ N, l.length = N := ⟨_, rfl⟩;have hM : m.length = N := by rw [<- hlm, hN]
  obtain ⟨r, hr⟩ : ∃ r, eqv l m = r := ⟨_, rfl⟩;have HR := Lib.hid (show r = eqv (l.drop 0) (m.drop 0) from hr.symm);rw [hr];rw [hN] at hl;rw [hN, hM];have hnn : ((N : Int) != (N : Int)) = false := by simp
  have HL := Lib.hid hl;have HN := Lib.hid hN;have HM := Lib.hid hM;clear hN hM hl h h' hz hz' hlm hr;go_enter Tryz.func38, Tryz.ntmps38;go_wp2_with fail;go_loopw [5] (fun k wr => ∃ (K : Nat), k = .int .i64 (K : Int) /\ K <= N /\ Hid (r = eqv (l.drop K) (m.drop K)) /\ Hid (Below w.heap.size w wr)) (fun k _ => N - (intOf k).toNat)
  case atStart => exact ⟨0, rfl, Nat.zero_le _, HR, Lib.hid (Below.refl _ _)⟩
  case round =>
   obtain ⟨K, rfl, hK, HJ, HB⟩ := hrel;by_cases hlt : K < N
   ·have hltI : (K : Int) < (N : Int) := by omega
    have hk0 : 0 <= (K : Int) := by omega
    have hwK := wrap_next K (by have := HL.out; omega);obtain ⟨x, hx⟩ : ∃ e, l[K]? = some e := ⟨_, List.getElem?_eq_getElem (by rw [HN.out]; exact hlt)⟩;obtain ⟨y, hy⟩ : ∃ e, m[K]? = some e := ⟨_, List.getElem?_eq_getElem (by rw [HM.out]; exact hlt)⟩;obtain ⟨b, off, ea, hc⟩ := HS.out K x hx;obtain ⟨b', off', ea', hc'⟩ := HS'.out K y hy;subst ea ea';have k0 : wr.cell? ⟨b, off + K, none⟩ = some (.string (str x)) := kept_cell HB.out hc;have j0 : wr.cell? ⟨b', off' + K, none⟩ = some (.string (str y)) := kept_cell HB.out hc';have hd := HJ.out;rw [drop_same hx hy] at hd;clear hc hc' hx hy;by_cases hxy : x = y
    ·subst hxy
     have hxx : (!(str x).toList == (str x).toList) = false := tx_eq x;rw [eqv_self, Bool.true_and] at hd;have HD := Lib.hid hd;clear hd;go_wp2_with fail;go_quiet (fail)
     go_wp2_with fail;go_roundw
     case rel => exact ⟨K + 1, by go_num, by omega, HD, Lib.hid (below_drewN HB.out _)⟩
     case measure => simp [intOf]; omega
    ·have hxx : (!(str x).toList == (str y).toList) = true := tx_ne hxy
     rw [eqv_false hxy, Bool.false_and] at hd;subst hd;go_wp2_with fail;go_quiet (fail)
     go_wp2_with fail;go_ret;exact ⟨rfl, below_drewN HB.out _⟩
   ·have hltI : ¬ (K : Int) < (N : Int) := by omega
    have hd := HJ.out;rw [drop_end (by rw [HN.out]; omega) (by rw [HM.out]; omega)] at hd;subst hd;go_wp2_with fail;go_ret;exact ⟨rfl, HB.out⟩
 ·rw [len_apart hlm]
  obtain ⟨N, hN⟩ : ∃ N, l.length = N := ⟨_, rfl⟩;obtain ⟨M, hM⟩ : ∃ M, m.length = M := ⟨_, rfl⟩;rw [hN, hM] at hlm ⊢;have hnn : ((N : Int) != (M : Int)) = true := by simpa using fun e => hlm (by omega)
  clear hN hM hz hz' h h';go_enter Tryz.func38, Tryz.ntmps38;go_wp2_with fail;go_ret;exact ⟨rfl, Below.refl _ _⟩
set_option maxHeartbeats 8000000 in
theorem verdictsG (L : Low) (l m : List Vd) (v v' : Value) (w : World) (h : VdsIs w v l) (h' : VdsIs w v' m) (hl : l.length <= 17592186044416) :
 Calls Tryz.prog 42 #[v, v'] w fun z w' => z = .returned (.bool (eqv l m)) /\ Below w.heap.size w w' := by
 obtain ⟨a, cap, rfl, hz⟩ := h.open;obtain ⟨a', cap', rfl, hz'⟩ := h'.open;by_cases hlm : l.length = m.length
 ·have HS := Lib.hid hz
  have HS' := Lib.hid hz';obtain ⟨N, hN⟩ : ∃ N, l.length = N := ⟨_, rfl⟩;have hM : m.length = N := by rw [<- hlm, hN]
  obtain ⟨r, hr⟩ : ∃ r, eqv l m = r := ⟨_, rfl⟩;have HR := Lib.hid (show r = eqv (l.drop 0) (m.drop 0) from hr.symm);rw [hr];rw [hN] at hl;rw [hN, hM];have hnn : ((N : Int) != (N : Int)) = false := by simp
  have HL := Lib.hid hl;have HN := Lib.hid hN;have HM := Lib.hid hM;clear hN hM hl h h' hz hz' hlm hr;go_enter Tryz.func42, Tryz.ntmps42;go_wp2_with fail;go_loopw [5] (fun k wr => ∃ (K : Nat), k = .int .i64 (K : Int) /\ K <= N /\ Hid (r = eqv (l.drop K) (m.drop K)) /\ Hid (Below w.heap.size w wr)) (fun k _ => N - (intOf k).toNat)
  case atStart => exact ⟨0, rfl, Nat.zero_le _, HR, Lib.hid (Below.refl _ _)⟩
  case round =>
   obtain ⟨K, rfl, hK, HJ, HB⟩ := hrel;by_cases hlt : K < N
   ·have hltI : (K : Int) < (N : Int) := by omega
    have hk0 : 0 <= (K : Int) := by omega
    have hwK := wrap_next K (by have := HL.out; omega);obtain ⟨x, hx⟩ : ∃ e, l[K]? = some e := ⟨_, List.getElem?_eq_getElem (by rw [HN.out]; exact hlt)⟩;obtain ⟨y, hy⟩ : ∃ e, m[K]? = some e := ⟨_, List.getElem?_eq_getElem (by rw [HM.out]; exact hlt)⟩;have hd := HJ.out;rw [drop_same hx hy] at hd;obtain ⟨b, off, ea, cs, -, rfl, hc⟩ := HS.out K x hx;obtain ⟨b', off', ea', cs', -, rfl, hc'⟩ := HS'.out K y hy;subst ea ea';obtain ⟨n0, n1⟩ := x;obtain ⟨m0, m1⟩ := y;have k0 : wr.cell? ⟨b, off + K * 2, none⟩ = some (Value.int .i64 n0) := kept_cell HB.out (hc 0 _ rfl);have k1 : wr.cell? ⟨b, off + K * 2 + 1, none⟩ = some (Value.int .i64 n1) := kept_cell HB.out (hc 1 _ rfl);have k2 : wr.cell? ⟨b', off' + K * 2, none⟩ = some (Value.int .i64 m0) := kept_cell HB.out (hc' 0 _ rfl);have k3 : wr.cell? ⟨b', off' + K * 2 + 1, none⟩ = some (Value.int .i64 m1) := kept_cell HB.out (hc' 1 _ rfl);clear hc hc' hx hy;by_cases h0 : n0 = m0
    ·subst h0
     by_cases h1 : n1 = m1
     ·subst h1
      rw [eqv_self, Bool.true_and] at hd;have HD := Lib.hid hd;clear hd;have hS0 : (wr.drew.cell? ⟨b, off + K * 2, none⟩ = some (Value.int .i64 n0) /\ wr.drew.cell? ⟨b, off + K * 2 + 1, none⟩ = some (Value.int .i64 n1) /\ wr.drew.cell? ⟨b', off' + K * 2, none⟩ = some (Value.int .i64 n0) /\ wr.drew.cell? ⟨b', off' + K * 2 + 1, none⟩ = some (Value.int .i64 n1) /\ Below w.heap.size w wr.drew) := ⟨k0, k1, k2, k3, HB.out.drew⟩;haveI hne : Nonempty (Wd (fun W => (W.cell? ⟨b, off + K * 2, none⟩ = some (Value.int .i64 n0) /\ W.cell? ⟨b, off + K * 2 + 1, none⟩ = some (Value.int .i64 n1) /\ W.cell? ⟨b', off' + K * 2, none⟩ = some (Value.int .i64 n0) /\ W.cell? ⟨b', off' + K * 2 + 1, none⟩ = some (Value.int .i64 n1) /\ Below w.heap.size w W))) := ⟨⟨_, hS0⟩⟩
      have q0 := fun x : Wd (fun W => (W.cell? ⟨b, off + K * 2, none⟩ = some (Value.int .i64 n0) /\ W.cell? ⟨b, off + K * 2 + 1, none⟩ = some (Value.int .i64 n1) /\ W.cell? ⟨b', off' + K * 2, none⟩ = some (Value.int .i64 n0) /\ W.cell? ⟨b', off' + K * 2 + 1, none⟩ = some (Value.int .i64 n1) /\ Below w.heap.size w W)) => x.ok.1
      have q1 := fun x : Wd (fun W => (W.cell? ⟨b, off + K * 2, none⟩ = some (Value.int .i64 n0) /\ W.cell? ⟨b, off + K * 2 + 1, none⟩ = some (Value.int .i64 n1) /\ W.cell? ⟨b', off' + K * 2, none⟩ = some (Value.int .i64 n0) /\ W.cell? ⟨b', off' + K * 2 + 1, none⟩ = some (Value.int .i64 n1) /\ Below w.heap.size w W)) => x.ok.2.1
      have q2 := fun x : Wd (fun W => (W.cell? ⟨b, off + K * 2, none⟩ = some (Value.int .i64 n0) /\ W.cell? ⟨b, off + K * 2 + 1, none⟩ = some (Value.int .i64 n1) /\ W.cell? ⟨b', off' + K * 2, none⟩ = some (Value.int .i64 n0) /\ W.cell? ⟨b', off' + K * 2 + 1, none⟩ = some (Value.int .i64 n1) /\ Below w.heap.size w W)) => x.ok.2.2.1
      have q3 := fun x : Wd (fun W => (W.cell? ⟨b, off + K * 2, none⟩ = some (Value.int .i64 n0) /\ W.cell? ⟨b, off + K * 2 + 1, none⟩ = some (Value.int .i64 n1) /\ W.cell? ⟨b', off' + K * 2, none⟩ = some (Value.int .i64 n0) /\ W.cell? ⟨b', off' + K * 2 + 1, none⟩ = some (Value.int .i64 n1) /\ Below w.heap.size w W)) => x.ok.2.2.2.1
      try dsimp only at q0 q1 q2 q3
      go_upto_region 6 with fail
      refine wp_region_quiet_wd (S := fun W => (W.cell? ⟨b, off + K * 2, none⟩ = some (Value.int .i64 n0) /\ W.cell? ⟨b, off + K * 2 + 1, none⟩ = some (Value.int .i64 n1) /\ W.cell? ⟨b', off' + K * 2, none⟩ = some (Value.int .i64 n0) /\ W.cell? ⟨b', off' + K * 2 + 1, none⟩ = some (Value.int .i64 n1) /\ Below w.heap.size w W)) (by kernel_rfl) (by kernel_rfl) hS0 ?_;repeat (go_big_quiet_step (first | fail))
      refine wpQuiet_nil ?_;intro _ hw';obtain ⟨⟨wq, hSq⟩, rfl⟩ := hw';try dsimp only
      clear hne hS0 q0 q1 q2 q3;go_wp2_with fail;go_roundw
      case rel => exact ⟨K + 1, by go_num, by omega, HD, Lib.hid hSq.2.2.2.2⟩
      case measure => simp [intOf]; omega
     ·rw [eqv_false (fun e => h1 (by injection e)), Bool.false_and] at hd
      have HD := Lib.hid hd;clear hd;have h1b : (n1 == m1) = false := by simpa using h1
      have hS0 : (wr.drew.cell? ⟨b, off + K * 2, none⟩ = some (Value.int .i64 n0) /\ wr.drew.cell? ⟨b, off + K * 2 + 1, none⟩ = some (Value.int .i64 n1) /\ wr.drew.cell? ⟨b', off' + K * 2, none⟩ = some (Value.int .i64 n0) /\ wr.drew.cell? ⟨b', off' + K * 2 + 1, none⟩ = some (Value.int .i64 m1) /\ Below w.heap.size w wr.drew) := ⟨k0, k1, k2, k3, HB.out.drew⟩;haveI hne : Nonempty (Wd (fun W => (W.cell? ⟨b, off + K * 2, none⟩ = some (Value.int .i64 n0) /\ W.cell? ⟨b, off + K * 2 + 1, none⟩ = some (Value.int .i64 n1) /\ W.cell? ⟨b', off' + K * 2, none⟩ = some (Value.int .i64 n0) /\ W.cell? ⟨b', off' + K * 2 + 1, none⟩ = some (Value.int .i64 m1) /\ Below w.heap.size w W))) := ⟨⟨_, hS0⟩⟩
      have q0 := fun x : Wd (fun W => (W.cell? ⟨b, off + K * 2, none⟩ = some (Value.int .i64 n0) /\ W.cell? ⟨b, off + K * 2 + 1, none⟩ = some (Value.int .i64 n1) /\ W.cell? ⟨b', off' + K * 2, none⟩ = some (Value.int .i64 n0) /\ W.cell? ⟨b', off' + K * 2 + 1, none⟩ = some (Value.int .i64 m1) /\ Below w.heap.size w W)) => x.ok.1
      have q1 := fun x : Wd (fun W => (W.cell? ⟨b, off + K * 2, none⟩ = some (Value.int .i64 n0) /\ W.cell? ⟨b, off + K * 2 + 1, none⟩ = some (Value.int .i64 n1) /\ W.cell? ⟨b', off' + K * 2, none⟩ = some (Value.int .i64 n0) /\ W.cell? ⟨b', off' + K * 2 + 1, none⟩ = some (Value.int .i64 m1) /\ Below w.heap.size w W)) => x.ok.2.1
      have q2 := fun x : Wd (fun W => (W.cell? ⟨b, off + K * 2, none⟩ = some (Value.int .i64 n0) /\ W.cell? ⟨b, off + K * 2 + 1, none⟩ = some (Value.int .i64 n1) /\ W.cell? ⟨b', off' + K * 2, none⟩ = some (Value.int .i64 n0) /\ W.cell? ⟨b', off' + K * 2 + 1, none⟩ = some (Value.int .i64 m1) /\ Below w.heap.size w W)) => x.ok.2.2.1
      have q3 := fun x : Wd (fun W => (W.cell? ⟨b, off + K * 2, none⟩ = some (Value.int .i64 n0) /\ W.cell? ⟨b, off + K * 2 + 1, none⟩ = some (Value.int .i64 n1) /\ W.cell? ⟨b', off' + K * 2, none⟩ = some (Value.int .i64 n0) /\ W.cell? ⟨b', off' + K * 2 + 1, none⟩ = some (Value.int .i64 m1) /\ Below w.heap.size w W)) => x.ok.2.2.2.1
      try dsimp only at q0 q1 q2 q3
      go_upto_region 6 with fail
      refine wp_region_quiet_wd (S := fun W => (W.cell? ⟨b, off + K * 2, none⟩ = some (Value.int .i64 n0) /\ W.cell? ⟨b, off + K * 2 + 1, none⟩ = some (Value.int .i64 n1) /\ W.cell? ⟨b', off' + K * 2, none⟩ = some (Value.int .i64 n0) /\ W.cell? ⟨b', off' + K * 2 + 1, none⟩ = some (Value.int .i64 m1) /\ Below w.heap.size w W)) (by kernel_rfl) (by kernel_rfl) hS0 ?_;repeat (go_big_quiet_step (first | fail))
      refine wpQuiet_nil ?_;intro _ hw';obtain ⟨⟨wq, hSq⟩, rfl⟩ := hw';try dsimp only
      clear hne hS0 q0 q1 q2 q3;go_wp2_with fail;go_ret;exact ⟨by rw [HD.out]; rfl, hSq.2.2.2.2⟩
    ·rw [eqv_false (fun e => h0 (by injection e)), Bool.false_and] at hd
     have HD := Lib.hid hd;clear hd;have h0b : (n0 == m0) = false := by simpa using h0
     have hS0 : (wr.drew.cell? ⟨b, off + K * 2, none⟩ = some (Value.int .i64 n0) /\ wr.drew.cell? ⟨b, off + K * 2 + 1, none⟩ = some (Value.int .i64 n1) /\ wr.drew.cell? ⟨b', off' + K * 2, none⟩ = some (Value.int .i64 m0) /\ wr.drew.cell? ⟨b', off' + K * 2 + 1, none⟩ = some (Value.int .i64 m1) /\ Below w.heap.size w wr.drew) := ⟨k0, k1, k2, k3, HB.out.drew⟩;haveI hne : Nonempty (Wd (fun W => (W.cell? ⟨b, off + K * 2, none⟩ = some (Value.int .i64 n0) /\ W.cell? ⟨b, off + K * 2 + 1, none⟩ = some (Value.int .i64 n1) /\ W.cell? ⟨b', off' + K * 2, none⟩ = some (Value.int .i64 m0) /\ W.cell? ⟨b', off' + K * 2 + 1, none⟩ = some (Value.int .i64 m1) /\ Below w.heap.size w W))) := ⟨⟨_, hS0⟩⟩
     have q0 := fun x : Wd (fun W => (W.cell? ⟨b, off + K * 2, none⟩ = some (Value.int .i64 n0) /\ W.cell? ⟨b, off + K * 2 + 1, none⟩ = some (Value.int .i64 n1) /\ W.cell? ⟨b', off' + K * 2, none⟩ = some (Value.int .i64 m0) /\ W.cell? ⟨b', off' + K * 2 + 1, none⟩ = some (Value.int .i64 m1) /\ Below w.heap.size w W)) => x.ok.1
     have q1 := fun x : Wd (fun W => (W.cell? ⟨b, off + K * 2, none⟩ = some (Value.int .i64 n0) /\ W.cell? ⟨b, off + K * 2 + 1, none⟩ = some (Value.int .i64 n1) /\ W.cell? ⟨b', off' + K * 2, none⟩ = some (Value.int .i64 m0) /\ W.cell? ⟨b', off' + K * 2 + 1, none⟩ = some (Value.int .i64 m1) /\ Below w.heap.size w W)) => x.ok.2.1
     have q2 := fun x : Wd (fun W => (W.cell? ⟨b, off + K * 2, none⟩ = some (Value.int .i64 n0) /\ W.cell? ⟨b, off + K * 2 + 1, none⟩ = some (Value.int .i64 n1) /\ W.cell? ⟨b', off' + K * 2, none⟩ = some (Value.int .i64 m0) /\ W.cell? ⟨b', off' + K * 2 + 1, none⟩ = some (Value.int .i64 m1) /\ Below w.heap.size w W)) => x.ok.2.2.1
     have q3 := fun x : Wd (fun W => (W.cell? ⟨b, off + K * 2, none⟩ = some (Value.int .i64 n0) /\ W.cell? ⟨b, off + K * 2 + 1, none⟩ = some (Value.int .i64 n1) /\ W.cell? ⟨b', off' + K * 2, none⟩ = some (Value.int .i64 m0) /\ W.cell? ⟨b', off' + K * 2 + 1, none⟩ = some (Value.int .i64 m1) /\ Below w.heap.size w W)) => x.ok.2.2.2.1
     try dsimp only at q0 q1 q2 q3
     go_upto_region 6 with fail
     refine wp_region_quiet_wd (S := fun W => (W.cell? ⟨b, off + K * 2, none⟩ = some (Value.int .i64 n0) /\ W.cell? ⟨b, off + K * 2 + 1, none⟩ = some (Value.int .i64 n1) /\ W.cell? ⟨b', off' + K * 2, none⟩ = some (Value.int .i64 m0) /\ W.cell? ⟨b', off' + K * 2 + 1, none⟩ = some (Value.int .i64 m1) /\ Below w.heap.size w W)) (by kernel_rfl) (by kernel_rfl) hS0 ?_;repeat (go_big_quiet_step (first | fail))
     refine wpQuiet_nil ?_;intro _ hw';obtain ⟨⟨wq, hSq⟩, rfl⟩ := hw';try dsimp only
     clear hne hS0 q0 q1 q2 q3;go_wp2_with fail;go_ret;exact ⟨by rw [HD.out]; rfl, hSq.2.2.2.2⟩
   ·have hltI : ¬ (K : Int) < (N : Int) := by omega
    have hd := HJ.out;rw [drop_end (by rw [HN.out]; omega) (by rw [HM.out]; omega)] at hd;subst hd;go_wp2_with fail;go_ret;exact ⟨rfl, HB.out⟩
 ·rw [len_apart hlm]
  obtain ⟨N, hN⟩ : ∃ N, l.length = N := ⟨_, rfl⟩;obtain ⟨M, hM⟩ : ∃ M, m.length = M := ⟨_, rfl⟩;rw [hN, hM] at hlm ⊢;have hnn : ((N : Int) != (M : Int)) = true := by simpa using fun e => hlm (by omega)
  clear hN hM hz hz' h h';go_enter Tryz.func42, Tryz.ntmps42;go_wp2_with fail;go_ret;exact ⟨rfl, Below.refl _ _⟩
theorem eqv_int (a b : Int) : eqv a b = (a == b) := by
 rw [Bool.eq_iff_iff, eqv_iff]; simp
theorem tx_ne2 {a b : List UInt8} (h : ¬ a = b) : ((str a).toList == (str b).toList) = false := by rw [str_tl, str_tl]; simpa using h
theorem stateG_eqv (n0 : Int) (n1 : Int) (n2 : List Int) (m0 : Int) (m1 : Int) (m2 : List Int) : eqv (⟨n0, n1, n2⟩ : St) ⟨m0, m1, m2⟩ = (eqv n0 m0 && (eqv n1 m1 && (eqv n2 m2))) := by
 rw [Bool.eq_iff_iff];simp only [Bool.and_eq_true, eqv_iff, St.mk.injEq]
set_option maxHeartbeats 4000000 in
theorem stateG (L : Low) (c d : St) (vn vm : Value) (w : World) (h : SlN w vn c.vars) (h' : SlN w vm d.vars) (hl : c.vars.length <= 4611686018427387904) :
 Calls Tryz.prog 96 #[.agg #[.int .i64 c.pos, .int .i64 c.ver, vn], .agg #[.int .i64 d.pos, .int .i64 d.ver, vm]] w fun z w' => z = .returned (.bool (eqv c d)) /\ Below w.heap.size w w' := by
 obtain ⟨n0, n1, n2⟩ := c;obtain ⟨m0, m1, m2⟩ := d;dsimp only at h h' hl ⊢;rw [stateG_eqv];have HI := Lib.hid (fun (W : World) (hb : Below w.heap.size w W) => ints_any n2 m2 vn vm W (h.below hb) (h'.below hb) hl);obtain ⟨W0, hW0⟩ : ∃ W0, w.alloc (.cells #[.int .i64 n0, .int .i64 n1, vn] 89) = W0 := ⟨_, rfl⟩;obtain ⟨g, hg⟩ : ∃ g, W0.heap.size = g := ⟨_, rfl⟩;obtain ⟨W1, hW1⟩ : ∃ W1, W0.alloc (.cells #[.int .i64 m0, .int .i64 m1, vm] 89) = W1 := ⟨_, rfl⟩;have hB0 : Below w.heap.size w W0 := by rw [<- hW0]; exact below_alloc _ _
 have hB1 : Below W0.heap.size W0 W1 := by rw [<- hW1]; exact below_alloc _ _
 have k0 : W1.cell? ⟨w.heap.size, 0, none⟩ = some (.int .i64 n0) := kept_cell hB1 (by rw [<- hW0]; exact alloc_cell w [_, _, _] _ 0 _ rfl);have k1 : W1.cell? ⟨w.heap.size, 1, none⟩ = some (.int .i64 n1) := kept_cell hB1 (by rw [<- hW0]; exact alloc_cell w [_, _, _] _ 1 _ rfl);have k2 : W1.cell? ⟨w.heap.size, 2, none⟩ = some (vn) := kept_cell hB1 (by rw [<- hW0]; exact alloc_cell w [_, _, _] _ 2 _ rfl);have j0 : W1.cell? ⟨g, 0, none⟩ = some (.int .i64 m0) := by rw [<- hW1, <- hg]; exact alloc_cell W0 [_, _, _] _ 0 _ rfl
 have j1 : W1.cell? ⟨g, 1, none⟩ = some (.int .i64 m1) := by rw [<- hW1, <- hg]; exact alloc_cell W0 [_, _, _] _ 1 _ rfl
 have j2 : W1.cell? ⟨g, 2, none⟩ = some (vm) := by rw [<- hW1, <- hg]; exact alloc_cell W0 [_, _, _] _ 2 _ rfl
 have hb := hB0.trans (hB1.mono hB0.size);have HB := Lib.hid hb;have HH := Lib.hid (HI.out W1 hb);clear hB0 hB1 hb HI h h';obtain ⟨bi, hbi⟩ : ∃ b, eqv n2 m2 = b := ⟨_, rfl⟩;rw [hbi] at HH ⊢;clear hbi;by_cases h0 : n0 = m0
 rotate_left 1
 ·have e0 : (n0 == m0) = false := by simpa using h0
  rw [eqv_false h0, Bool.false_and];clear h0;go_enter Tryz.func96, Tryz.ntmps96;go_wp2_with fail;go_ret;exact ⟨rfl, HB.out⟩
 subst h0;rw [eqv_self, Bool.true_and];by_cases h1 : n1 = m1
 rotate_left 1
 ·have e1 : (n1 == m1) = false := by simpa using h1
  rw [eqv_false h1, Bool.false_and];clear h1;go_enter Tryz.func96, Tryz.ntmps96;go_wp2_with fail;go_ret;exact ⟨rfl, HB.out⟩
 subst h1;rw [eqv_self, Bool.true_and];go_enter Tryz.func96, Tryz.ntmps96;go_wp2_with fail;refine HH.out.mono ?_;rintro _ w2 ⟨rfl, hb2⟩;have HB2 := Lib.hid (HB.out.trans (hb2.mono HB.out.size));clear hb2;go_wp2_with fail;go_ret;exact ⟨rfl, HB2.out⟩
theorem cmdG_eqv (n0 : Int) (n1 : Int) (n2 : List UInt8) (n3 : Int) (n4 : List Int) (n5 : Int) (m0 : Int) (m1 : Int) (m2 : List UInt8) (m3 : Int) (m4 : List Int) (m5 : Int) : eqv (⟨n0, n1, n2, n3, n4, n5⟩ : Cm) ⟨m0, m1, m2, m3, m4, m5⟩ = (eqv n0 m0 && (eqv n1 m1 && (eqv n2 m2 && (eqv n3 m3 && (eqv n4 m4 && (eqv n5 m5)))))) := by
 rw [Bool.eq_iff_iff];simp only [Bool.and_eq_true, eqv_iff, Cm.mk.injEq]
set_option maxHeartbeats 4000000 in
theorem cmdG (L : Low) (c d : Cm) (vn vm : Value) (w : World) (h : SlN w vn c.args) (h' : SlN w vm d.args) (hl : c.args.length <= 4611686018427387904) :
 Calls Tryz.prog 94 #[.agg #[.int .i64 c.client, .int .i64 c.seq, .string (str c.stream), .int .i64 c.rule, vn, .int .i64 c.expect], .agg #[.int .i64 d.client, .int .i64 d.seq, .string (str d.stream), .int .i64 d.rule, vm, .int .i64 d.expect]] w fun z w' => z = .returned (.bool (eqv c d)) /\ Below w.heap.size w w' := by
 obtain ⟨n0, n1, n2, n3, n4, n5⟩ := c;obtain ⟨m0, m1, m2, m3, m4, m5⟩ := d;dsimp only at h h' hl ⊢;rw [cmdG_eqv];have HE := Lib.hid (eqv_int n5 m5);have HI := Lib.hid (fun (W : World) (hb : Below w.heap.size w W) => ints_any n4 m4 vn vm W (h.below hb) (h'.below hb) hl);obtain ⟨W0, hW0⟩ : ∃ W0, w.alloc (.cells #[.int .i64 n0, .int .i64 n1, .string (str n2), .int .i64 n3, vn, .int .i64 n5] 59) = W0 := ⟨_, rfl⟩;obtain ⟨g, hg⟩ : ∃ g, W0.heap.size = g := ⟨_, rfl⟩;obtain ⟨W1, hW1⟩ : ∃ W1, W0.alloc (.cells #[.int .i64 m0, .int .i64 m1, .string (str m2), .int .i64 m3, vm, .int .i64 m5] 59) = W1 := ⟨_, rfl⟩;have hB0 : Below w.heap.size w W0 := by rw [<- hW0]; exact below_alloc _ _
 have hB1 : Below W0.heap.size W0 W1 := by rw [<- hW1]; exact below_alloc _ _
 have k0 : W1.cell? ⟨w.heap.size, 0, none⟩ = some (.int .i64 n0) := kept_cell hB1 (by rw [<- hW0]; exact alloc_cell w [_, _, _, _, _, _] _ 0 _ rfl);have k1 : W1.cell? ⟨w.heap.size, 1, none⟩ = some (.int .i64 n1) := kept_cell hB1 (by rw [<- hW0]; exact alloc_cell w [_, _, _, _, _, _] _ 1 _ rfl);have k2 : W1.cell? ⟨w.heap.size, 2, none⟩ = some (.string (str n2)) := kept_cell hB1 (by rw [<- hW0]; exact alloc_cell w [_, _, _, _, _, _] _ 2 _ rfl);have k3 : W1.cell? ⟨w.heap.size, 3, none⟩ = some (.int .i64 n3) := kept_cell hB1 (by rw [<- hW0]; exact alloc_cell w [_, _, _, _, _, _] _ 3 _ rfl);have k4 : W1.cell? ⟨w.heap.size, 4, none⟩ = some (vn) := kept_cell hB1 (by rw [<- hW0]; exact alloc_cell w [_, _, _, _, _, _] _ 4 _ rfl);have k5 : W1.cell? ⟨w.heap.size, 5, none⟩ = some (.int .i64 n5) := kept_cell hB1 (by rw [<- hW0]; exact alloc_cell w [_, _, _, _, _, _] _ 5 _ rfl);have j0 : W1.cell? ⟨g, 0, none⟩ = some (.int .i64 m0) := by rw [<- hW1, <- hg]; exact alloc_cell W0 [_, _, _, _, _, _] _ 0 _ rfl
 have j1 : W1.cell? ⟨g, 1, none⟩ = some (.int .i64 m1) := by rw [<- hW1, <- hg]; exact alloc_cell W0 [_, _, _, _, _, _] _ 1 _ rfl
 have j2 : W1.cell? ⟨g, 2, none⟩ = some (.string (str m2)) := by rw [<- hW1, <- hg]; exact alloc_cell W0 [_, _, _, _, _, _] _ 2 _ rfl
 have j3 : W1.cell? ⟨g, 3, none⟩ = some (.int .i64 m3) := by rw [<- hW1, <- hg]; exact alloc_cell W0 [_, _, _, _, _, _] _ 3 _ rfl
 have j4 : W1.cell? ⟨g, 4, none⟩ = some (vm) := by rw [<- hW1, <- hg]; exact alloc_cell W0 [_, _, _, _, _, _] _ 4 _ rfl
 have j5 : W1.cell? ⟨g, 5, none⟩ = some (.int .i64 m5) := by rw [<- hW1, <- hg]; exact alloc_cell W0 [_, _, _, _, _, _] _ 5 _ rfl
 have hb := hB0.trans (hB1.mono hB0.size);have HB := Lib.hid hb;have HH := Lib.hid (HI.out W1 hb);clear hB0 hB1 hb HI h h';obtain ⟨bi, hbi⟩ : ∃ b, eqv n4 m4 = b := ⟨_, rfl⟩;rw [hbi] at HH ⊢;clear hbi;by_cases h0 : n0 = m0
 rotate_left 1
 ·have e0 : (n0 == m0) = false := by simpa using h0
  rw [eqv_false h0, Bool.false_and];clear h0;go_enter Tryz.func94, Tryz.ntmps94;go_wp2_with fail;go_ret;exact ⟨rfl, HB.out⟩
 subst h0;rw [eqv_self, Bool.true_and];by_cases h1 : n1 = m1
 rotate_left 1
 ·have e1 : (n1 == m1) = false := by simpa using h1
  rw [eqv_false h1, Bool.false_and];clear h1;go_enter Tryz.func94, Tryz.ntmps94;go_wp2_with fail;go_ret;exact ⟨rfl, HB.out⟩
 subst h1;rw [eqv_self, Bool.true_and];by_cases h2 : n2 = m2
 rotate_left 1
 ·have e2 := tx_ne2 h2
  rw [eqv_false h2, Bool.false_and];clear h2;go_enter Tryz.func94, Tryz.ntmps94;go_wp2_with fail;go_ret;exact ⟨rfl, HB.out⟩
 subst h2;rw [eqv_self, Bool.true_and];by_cases h3 : n3 = m3
 rotate_left 1
 ·have e3 : (n3 == m3) = false := by simpa using h3
  rw [eqv_false h3, Bool.false_and];clear h3;go_enter Tryz.func94, Tryz.ntmps94;go_wp2_with fail;go_ret;exact ⟨rfl, HB.out⟩
 subst h3;rw [eqv_self, Bool.true_and];go_enter Tryz.func94, Tryz.ntmps94;go_wp2_with fail;refine HH.out.mono ?_;rintro _ w2 ⟨rfl, hb2⟩;have k5 := kept_cell hb2 k5;have j5 := kept_cell hb2 j5;have HB2 := Lib.hid (HB.out.trans (hb2.mono HB.out.size));clear hb2;cases bi with
 | false =>
  go_wp2_with fail;go_ret;exact ⟨rfl, HB2.out⟩
 | true =>
  go_wp2_with fail;go_ret;exact ⟨by rw [HE.out]; rfl, HB2.out⟩
end Go.Proofs.YtaidhoepnefcpaaGreat.C10
