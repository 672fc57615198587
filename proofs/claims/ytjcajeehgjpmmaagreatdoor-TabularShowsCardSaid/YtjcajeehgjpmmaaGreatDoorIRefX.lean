/-
  Contract of the reference of layer 4: tree.
-/
import Derived.OwnWalk
import Derived.Test.YtjcajeehgjpmmaaGreatDoorIPShH
import Derived.Deep.CutRange
import Derived.OneCell
namespace Go.Proofs.YtjcajeehgjpmmaaGreatDoor.I
open Go Go.RowKit B K E
set_option linter.unusedVariables false
theorem run_one_byte (W : World) (q : Addr) (c : Nat) (hc : c < 256) (h : W.cell? q = some (.int .u8 (c : Int))) :
 (convert 88 9 (.slice (some q) 1 1)).run Tryz.prog W = .ok (.string (str [UInt8.ofNat c])) W := by
 have hl : ([UInt8.ofNat c] : List UInt8).length = 1 := rfl;have := run_convert_bytes_back (P := Tryz.prog) W 88 9 5 q 1 [UInt8.ofNat c] Tryz.underlying88 Tryz.underlying5 Tryz.underlying9 (fun j hj => by
  obtain rfl : j = 0 := by simpa using hj
  simp only [List.getElem_cons_zero];rw [show (UInt8.ofNat c).toNat = c by rw [UInt8.toNat_ofNat']; omega];simpa [Addr.add] using h)
 exact this
set_option maxHeartbeats 400000 in
theorem refDigits_one (n : Nat) (w : World) (h : n < 10) :
 Calls Tryz.prog 48 #[.int .i64 (n : Int)] w fun e w' => e = .returned (.string (str (dig n))) /\ Below w.heap.size w w' := by
 have hm2 : IntKind.u8.wrap (48 + (n : Int)) = 48 + (n : Int) := IntWalk.u8_in _ (by omega);have hcv := run_one_byte (w.alloc (.cells #[.int .u8 (48 + (n : Int))] 5)) ⟨w.heap.size, 0, none⟩ (48 + n) (by omega) (by rw [World.cell?_alloc_at _ _ _ _ rfl]; show some (Value.int .u8 (48 + (n : Int))) = _; congr 2);have hd := dig_small n h;obtain ⟨c, hc⟩ : ∃ c, UInt8.ofNat (48 + n) = c := ⟨_, rfl⟩;rw [hc] at hcv hd;have HD := Lib.hid hd;have h' : (n : Int) < 10 := by omega
 clear hd hc;go_enter Tryz.func48, Tryz.ntmps48;go_wp2_with fail;go_ret;exact ⟨ret_str (by rw [HD.out]), (Below.refl _ _).alloc (Nat.le_refl _) _⟩
set_option maxHeartbeats 800000 in
theorem refDigits_any (n : Nat) : ∀ (w : World), n <= 9223372036854775807 -> Calls Tryz.prog 48 #[.int .i64 (n : Int)] w fun e w' => e = .returned (.string (str (dig n))) /\ Below w.heap.size w w' := by
 induction n using Nat.strongRecOn with
 | _ n ih =>
  intro w hn;by_cases h : n < 10
  ·exact refDigits_one n w h
  ·have hq : n / 10 <= 9223372036854775807 := by omega
   have IH := Lib.hid (fun W => ih (n / 10) (by omega) W hq); clear ih hq
   have hu : ¬ (n : Int) < 10 := by omega
   have hm0 : (n : Int).tmod 10 = ((n % 10 : Nat) : Int) := by rw [Int.tmod_eq_emod_of_nonneg (by omega)]; rfl
   have hd0 : (n : Int).tdiv 10 = ((n / 10 : Nat) : Int) := by rw [Int.tdiv_eq_ediv_of_nonneg (by omega)]; rfl
   have hlen := dig_length63 (n / 10) (by omega);have hbig := dig_big n h;obtain ⟨q, hq⟩ : ∃ q, n / 10 = q := ⟨_, rfl⟩;obtain ⟨m, hm⟩ : ∃ m, n % 10 = m := ⟨_, rfl⟩;have hm10 : m < 10 := by omega
   have hq40 : q <= 922337203685477581 := by omega
   rw [hm] at hm0 hbig;rw [hq] at hd0 hbig hlen IH;have hm1 : IntKind.i64.wrap (48 + (m : Int)) = 48 + (m : Int) := IntWalk.i64_in _ (by omega);have hm2 : IntKind.u8.wrap (48 + (m : Int)) = 48 + (m : Int) := IntWalk.u8_in _ (by omega);have hd1 : IntKind.i64.wrap (q : Int) = (q : Int) := IntWalk.i64_in _ (by omega);have hcv : ∀ W a, W.cell? a = some (.int .u8 (48 + (m : Int))) -> (convert 88 9 (.slice (some a) 1 1)).run Tryz.prog W = .ok (.string (str [UInt8.ofNat (48 + m)])) W := fun W a ha =>
    run_one_byte W a (48 + m) (by omega) (by rw [ha]; congr 2)
   obtain ⟨c, hc⟩ : ∃ c, UInt8.ofNat (48 + m) = c := ⟨_, rfl⟩;rw [hc] at hbig hcv;have hsx : (str [c]).size <= 1 := by rw [str_size]; simp
   have hsy : (str (dig q)).size <= 19 := by rw [str_size]; exact hlen
   have HBIG := Lib.hid hbig; clear hbig
   clear hq hm hc hn h hlen hm10 hq40;go_enter Tryz.func48, Tryz.ntmps48;go_wp2_with fail;go_region_with (go_at_call 48; refine (IH.out _).mono ?_; rintro e w1 ⟨rfl, hb⟩; obtain ⟨hc, hf⟩ := bcell hb)
   all_goals (go_wp2; go_ret; refine ⟨ret_str (by rw [HBIG.out, str_append]), ?_⟩)
   all_goals first | exact ((Below.refl _ _).drew.trans hb).alloc hb.size _ | exact (((Below.refl _ _).alloc (Nat.le_refl _) _).drew).trans (hb.mono (by simp))
def TreeIs (w : World) : Ex -> Int -> Int -> Value -> Prop
 | .con n, o, x, s => o = 1 /\ x = n
 | .var k, o, x, s => o = 2 /\ x = (k : Int)
 | .arg k, o, x, s => o = 3 /\ x = (k : Int)
 | .un o' a, o, x, s => o = o' /\ x = 0 /\ ∃ g off cap o1 x1 s1, s = .slice (some ⟨g, off, none⟩) 1 cap /\ w.cell? ⟨g, off, none⟩ = some (.int .i64 o1) /\ w.cell? ⟨g, off + 1, none⟩ = some (.int .i64 x1) /\ w.cell? ⟨g, off + 2, none⟩ = some s1 /\ TreeIs w a o1 x1 s1
 | .bin o' a b, o, x, s => o = o' /\ x = 0 /\ ∃ g off cap o1 x1 s1 o2 x2 s2, s = .slice (some ⟨g, off, none⟩) 2 cap /\ w.cell? ⟨g, off, none⟩ = some (.int .i64 o1) /\ w.cell? ⟨g, off + 1, none⟩ = some (.int .i64 x1) /\ w.cell? ⟨g, off + 2, none⟩ = some s1 /\ TreeIs w a o1 x1 s1 /\
  w.cell? ⟨g, off + 3, none⟩ = some (.int .i64 o2) /\ w.cell? ⟨g, off + 3 + 1, none⟩ = some (.int .i64 x2) /\ w.cell? ⟨g, off + 3 + 2, none⟩ = some s2 /\ TreeIs w b o2 x2 s2
 | .ite a b c, o, x, s => o = 16 /\ x = 0 /\ ∃ g off cap o1 x1 s1 o2 x2 s2 o3 x3 s3, s = .slice (some ⟨g, off, none⟩) 3 cap /\ w.cell? ⟨g, off, none⟩ = some (.int .i64 o1) /\ w.cell? ⟨g, off + 1, none⟩ = some (.int .i64 x1) /\ w.cell? ⟨g, off + 2, none⟩ = some s1 /\ TreeIs w a o1 x1 s1 /\
  w.cell? ⟨g, off + 3, none⟩ = some (.int .i64 o2) /\ w.cell? ⟨g, off + 3 + 1, none⟩ = some (.int .i64 x2) /\ w.cell? ⟨g, off + 3 + 2, none⟩ = some s2 /\ TreeIs w b o2 x2 s2 /\
  w.cell? ⟨g, off + 6, none⟩ = some (.int .i64 o3) /\ w.cell? ⟨g, off + 6 + 1, none⟩ = some (.int .i64 x3) /\ w.cell? ⟨g, off + 6 + 2, none⟩ = some s3 /\ TreeIs w c o3 x3 s3
theorem TreeIs.below {w w' : World} (hb : Below w.heap.size w w') (e : Ex) : ∀ o x s, TreeIs w e o x s -> TreeIs w' e o x s := by
 induction e with
 | con n => intro o x s h; exact h
 | var k => intro o x s h; exact h
 | arg k => intro o x s h; exact h
 | un o' a ih =>
  rintro o x s ⟨h1, h2, g, off, cap, o1, x1, s1, h3, c0, c1, c2, t1⟩;exact ⟨h1, h2, g, off, cap, o1, x1, s1, h3, cell_kept hb c0, cell_kept hb c1, cell_kept hb c2, ih _ _ _ t1⟩
 | bin o' a b iha ihb =>
  rintro o x s ⟨h1, h2, g, off, cap, o1, x1, s1, o2, x2, s2, h3, c0, c1, c2, t1, d0, d1, d2, t2⟩;exact ⟨h1, h2, g, off, cap, o1, x1, s1, o2, x2, s2, h3, cell_kept hb c0, cell_kept hb c1, cell_kept hb c2, iha _ _ _ t1, cell_kept hb d0, cell_kept hb d1, cell_kept hb d2, ihb _ _ _ t2⟩
 | ite a b c iha ihb ihc =>
  rintro o x s ⟨h1, h2, g, off, cap, o1, x1, s1, o2, x2, s2, o3, x3, s3, h3, c0, c1, c2, t1, d0, d1, d2, t2, e0, e1, e2, t3⟩;exact ⟨h1, h2, g, off, cap, o1, x1, s1, o2, x2, s2, o3, x3, s3, h3, cell_kept hb c0, cell_kept hb c1, cell_kept hb c2, iha _ _ _ t1, cell_kept hb d0, cell_kept hb d1, cell_kept hb d2, ihb _ _ _ t2, cell_kept hb e0, cell_kept hb e1, cell_kept hb e2, ihc _ _ _ t3⟩
def opOf : Ex -> Int | .con _ => 1 | .var _ => 2 | .arg _ => 3 | .un o _ => o | .bin o _ _ => o | .ite _ _ _ => 16
def nOf : Ex -> Int | .con n => n | .var k => (k : Int) | .arg k => (k : Int) | _ => 0
theorem TreeIs.root {w : World} {e : Ex} {o x : Int} {s : Value} (h : TreeIs w e o x s) : o = opOf e /\ x = nOf e := by
 cases e <;> exact ⟨h.1, by first | exact h.2 | exact h.2.1⟩
set_option maxHeartbeats 1600000 in
theorem refRank_any (nv na : Int) (e : Ex) (hw : WF nv na e) (s : Value) (w : World) :
 Calls Tryz.prog 125 #[.agg #[.int .i64 (opOf e), .int .i64 (nOf e), s]] w fun f w' => f = .returned (.int .i64 ((rank e : Nat) : Int)) /\ Below w.heap.size w w' := by
 cases e with
 | con n =>
  by_cases hn : n < 0
  ·have hr : rank (.con n) = 6 := by simp [rank, hn]
   rw [hr];show Calls Tryz.prog 125 #[.agg #[.int .i64 1, .int .i64 n, s]] w fun f w' => f = .returned (.int .i64 6) /\ Below w.heap.size w w'
   clear hr hw;go_enter Tryz.func125, Tryz.ntmps125;go_wp2_with fail;go_ret;exact ⟨rfl, (Below.refl _ _).alloc (Nat.le_refl _) _⟩
  ·have hr : rank (.con n) = 7 := by simp [rank, hn]
   rw [hr];show Calls Tryz.prog 125 #[.agg #[.int .i64 1, .int .i64 n, s]] w fun f w' => f = .returned (.int .i64 7) /\ Below w.heap.size w w'
   have bn : decide (n < 0) = false := decide_eq_false hn;clear hr hw hn;go_enter Tryz.func125, Tryz.ntmps125;go_wp2_with fail;go_ret;exact ⟨rfl, (Below.refl _ _).alloc (Nat.le_refl _) _⟩
 | var k =>
  show Calls Tryz.prog 125 #[.agg #[.int .i64 2, .int .i64 (k : Int), s]] w fun f w' => f = .returned (.int .i64 7) /\ Below w.heap.size w w'
  clear hw;go_enter Tryz.func125, Tryz.ntmps125;go_wp2_with fail;go_ret;exact ⟨rfl, (Below.refl _ _).alloc (Nat.le_refl _) _⟩
 | arg k =>
  show Calls Tryz.prog 125 #[.agg #[.int .i64 3, .int .i64 (k : Int), s]] w fun f w' => f = .returned (.int .i64 7) /\ Below w.heap.size w w'
  clear hw;go_enter Tryz.func125, Tryz.ntmps125;go_wp2_with fail;go_ret;exact ⟨rfl, (Below.refl _ _).alloc (Nat.le_refl _) _⟩
 | ite a b c =>
  show Calls Tryz.prog 125 #[.agg #[.int .i64 16, .int .i64 0, s]] w fun f w' => f = .returned (.int .i64 7) /\ Below w.heap.size w w'
  clear hw;go_enter Tryz.func125, Tryz.ntmps125;go_wp2_with fail;go_ret;exact ⟨rfl, (Below.refl _ _).alloc (Nat.le_refl _) _⟩
 | un o a =>
  have ho := hw.1;clear hw;rcases ho with rfl | rfl
  all_goals
   show Calls Tryz.prog 125 #[.agg #[.int .i64 _, .int .i64 0, s]] w fun f w' => f = .returned (.int .i64 6) /\ Below w.heap.size w w'
   simp only [opOf];go_enter Tryz.func125, Tryz.ntmps125;go_wp2_with fail;go_ret;exact ⟨rfl, (Below.refl _ _).alloc (Nat.le_refl _) _⟩
 | bin o a b =>
  have ho := bin_ops o hw.1;clear hw;rcases ho with (rfl | rfl) | (rfl | rfl | rfl | rfl | rfl | rfl | rfl | rfl)
  all_goals
   simp only [opOf, nOf];go_enter Tryz.func125, Tryz.ntmps125;go_wp2_with fail;go_ret;exact ⟨rfl, (Below.refl _ _).alloc (Nat.le_refl _) _⟩
def Plains (vs : List Bs) (e : Ex) : Prop := ∀ (w : World) (s v : Value), TreeIs w e (opOf e) (nOf e) s -> Names w v vs ->
 Calls Tryz.prog 79 #[.agg #[.int .i64 (opOf e), .int .i64 (nOf e), s], v] w fun f w' => f = .returned (.string (str (text vs e))) /\ Below w.heap.size w w'
set_option maxHeartbeats 800000 in
theorem refShown_of (vs : List Bs) (nv na : Int) (e : Ex) (hw : WF nv na e) (hp : Plains vs e) (least : Nat) (hl : least <= 7) (hlen : (text vs e).length <= 9223372036854775000) (w : World) (s v : Value) (ht : TreeIs w e (opOf e) (nOf e) s) (hn : Names w v vs) :
 Calls Tryz.prog 126 #[.agg #[.int .i64 (opOf e), .int .i64 (nOf e), s], .int .i64 (least : Int), v] w fun f w' => f = .returned (.string (str (shw vs e least))) /\ Below w.heap.size w w' := by
 have hb0 : Below w.heap.size w (w.alloc (.cells #[.int .i64 (opOf e), .int .i64 (nOf e), s] 128)) := (Below.refl _ _).alloc (Nat.le_refl _) _;have hcall := hp _ s v (ht.below hb0 e) (Sl.below hn hb0);have HCALL := Lib.hid hcall;have HB0 := Lib.hid hb0;have HRK := Lib.hid (fun W => refRank_any nv na e hw s W);have hrk := (rank_pos e).2;obtain ⟨T, hT⟩ : ∃ T, text vs e = T := ⟨_, rfl⟩;have hsz : (str T).size <= 9223372036854775000 := by rw [str_size, <- hT]; exact hlen
 obtain ⟨O, hO⟩ : ∃ O, opOf e = O := ⟨_, rfl⟩;obtain ⟨X, hX⟩ : ∃ X, nOf e = X := ⟨_, rfl⟩;obtain ⟨R, hR⟩ : ∃ R, rank e = R := ⟨_, rfl⟩;have hs : shw vs e least = if R < least then [40] ++ T ++ [41] else T := by unfold shw; rw [hT, hR]
 have HS := Lib.hid hs;rw [hO, hX] at HRK HCALL HB0 ⊢;rw [hR] at HRK hrk;rw [hT] at HCALL;have hr0 : ∀ (k : Nat) u, (#[Value.int .i64 O, .int .i64 X, s] : Array Value)[k]? = some u -> (w.alloc (.cells #[.int .i64 O, .int .i64 X, s] 128)).cell? ⟨w.heap.size, k, none⟩ = some u := by
  intro k u hu; rw [cell_of_row _ _ _ _ 128 (0, 0) (heap_alloc_at _ _)]; exact hu
 have c0 := hr0 0 _ rfl;have c1 := hr0 1 _ rfl;have c2 := hr0 2 _ rfl;have hlt : w.heap.size < (w.alloc (.cells #[.int .i64 O, .int .i64 X, s] 128)).heap.size := by simp
 clear hcall hb0 hp ht hn hT hO hX hR hs hlen hr0;go_enter Tryz.func126, Tryz.ntmps126;go_wp2_with fail;refine HCALL.out.mono ?_;rintro _ w1 ⟨rfl, hb1⟩;have d0 := ((bcell hb1).1 _ _ hlt).trans c0;have d1 := ((bcell hb1).1 _ _ hlt).trans c1;have d2 := ((bcell hb1).1 _ _ hlt).trans c2;have HB1 := Lib.hid (HB0.out.trans (hb1.mono HB0.out.size));clear hb1 c0 c1 c2 hlt HCALL;go_wp2_with fail;refine (HRK.out _).mono ?_;rintro _ w2 ⟨rfl, hb2⟩;have HB2 := Lib.hid (HB1.out.trans (hb2.mono HB1.out.size));clear hb2 d0 d1 d2;by_cases hc : R < least
 ·have hc' : (R : Int) < (least : Int) := by omega
  go_wp2_with fail;go_ret;exact ⟨ret_str (by rw [HS.out, if_pos hc, <- str_append, <- str_append]; rfl), HB2.out⟩
 ·have hc' : ¬ (R : Int) < (least : Int) := by omega
  go_wp2_with fail;go_ret;exact ⟨ret_str (by rw [HS.out, if_neg hc]), HB2.out⟩
theorem names_at {w : World} {a : Option Addr} {len cap : Nat} {vs : List Bs} (h : Names w (.slice a len cap) vs) {k : Nat} {s : Bs} (hk : vs[k]? = some s) : ∃ b off, a = some ⟨b, off, none⟩ /\ w.cell? ⟨b, off + k, none⟩ = some (.string (str s)) := by
 obtain ⟨a', cap', e, hc⟩ := h;cases e
 exact hc k (sv s) (by rw [List.getElem?_map, hk]; rfl)
theorem names_len {w : World} {v : Value} {vs : List Bs} (h : Names w v vs) : ∃ a cap, v = .slice a vs.length cap := by
 obtain ⟨a, cap, rfl, _⟩ := h;rw [List.length_map];exact ⟨a, cap, rfl⟩
theorem box_cells {w w1 : World} {o x : Int} {s : Value} (hb : Below (w.alloc (.cells #[.int .i64 o, .int .i64 x, s] 128)).heap.size (w.alloc (.cells #[.int .i64 o, .int .i64 x, s] 128)) w1) :
 w1.cell? ⟨w.heap.size, 0, none⟩ = some (.int .i64 o) /\ w1.cell? ⟨w.heap.size, 1, none⟩ = some (.int .i64 x) /\ w1.cell? ⟨w.heap.size, 2, none⟩ = some s /\ Below w.heap.size w w1 := by
 have hr0 : ∀ (k : Nat) u, (#[Value.int .i64 o, .int .i64 x, s] : Array Value)[k]? = some u -> w1.cell? ⟨w.heap.size, k, none⟩ = some u := by
  intro k u hu;rw [(bcell hb).1 _ _ (by simp), cell_of_row _ _ _ _ 128 (0, 0) (heap_alloc_at _ _)];exact hu
 exact ⟨hr0 0 _ rfl, hr0 1 _ rfl, hr0 2 _ rfl, ((Below.refl _ _).alloc (Nat.le_refl _) _).trans (hb.mono (by simp))⟩
theorem below_box (w w2 : World) (A B : Obj) (h : Below ((w.alloc A).alloc B).heap.size ((w.alloc A).alloc B) w2) : Below (w.alloc A).heap.size (w.alloc A) w2 := ((Below.refl _ _).alloc (Nat.le_refl _) _).trans (h.mono (by simp))
set_option maxRecDepth 100000 in
set_option maxHeartbeats 800000 in
theorem plain_con (vs : List Bs) (n : Int) (hv : isVal n = true) : Plains vs (.con n) := by
 intro w s v ht hn;obtain ⟨a, cap, rfl⟩ := names_len hn;have hv' := (isVal_iff n).1 hv;have HRK := Lib.hid (fun W => refRank_any 0 0 (.con n) hv s W);simp only [opOf, nOf] at HRK ⊢;by_cases h0 : n < 0
 ·have htx : text vs (.con n) = [45] ++ dig n.natAbs := by unfold text pieces; rw [if_pos h0]; simp
  obtain ⟨m, hm⟩ : ∃ m, n.natAbs = m := ⟨_, rfl⟩;rw [hm] at htx;obtain rfl : n = -(m : Int) := by omega
  have hneg : IntKind.i64.wrap (m : Int) = (m : Int) := IntWalk.i64_in _ (by omega);have hneg2 : wrap64 (m : Int) = (m : Int) := IntWalk.wrap64_in _ (by omega);have hm0 : 0 < (m : Int) := by omega
  have hsz : (str (dig m)).size <= 19 := by rw [str_size]; exact dig_length63 m (by omega)
  have HDG := Lib.hid (fun W => refDigits_any m W (by omega));have HTX := Lib.hid htx;clear hm htx hv hv' ht hn;go_enter Tryz.func79, Tryz.ntmps79;go_wp2_with fail;refine (HRK.out _).mono ?_;rintro _ w1 ⟨rfl, hb1⟩;obtain ⟨c0, c1, c2, hbw⟩ := box_cells (below_box _ _ _ _ hb1);have HB1 := Lib.hid hbw;clear hb1 hbw;go_wp2_with fail;refine (HDG.out _).mono ?_;rintro _ w2 ⟨rfl, hb2⟩;have HB2 := Lib.hid (HB1.out.trans (hb2.mono HB1.out.size));clear hb2;go_wp2_with fail;go_ret;exact ⟨ret_str (by rw [HTX.out, <- str_append]; rfl), HB2.out⟩
 ·have htx : text vs (.con n) = dig n.natAbs := by unfold text pieces; rw [if_neg h0]; simp
  obtain ⟨m, rfl⟩ := Int.eq_ofNat_of_zero_le (show 0 <= n by omega);rw [Int.natAbs_natCast] at htx;have HDG := Lib.hid (fun W => refDigits_any m W (by omega));have HTX := Lib.hid htx;clear htx hv hv' ht hn;go_enter Tryz.func79, Tryz.ntmps79;go_wp2_with fail;refine (HRK.out _).mono ?_;rintro _ w1 ⟨rfl, hb1⟩;obtain ⟨c0, c1, c2, hbw⟩ := box_cells (below_box _ _ _ _ hb1);have HB1 := Lib.hid hbw;clear hb1 hbw;go_wp2_with fail;refine (HDG.out _).mono ?_;rintro _ w2 ⟨rfl, hb2⟩;have HB2 := Lib.hid (HB1.out.trans (hb2.mono HB1.out.size));clear hb2;go_wp2_with fail;go_ret;exact ⟨ret_str (by rw [HTX.out]), HB2.out⟩
set_option maxRecDepth 100000 in
set_option maxHeartbeats 800000 in
theorem plain_var (vs : List Bs) (k : Nat) (hk : k < vs.length) (hkl : vs.length <= 9223372036854775807) : Plains vs (.var k) := by
 intro w s v ht hn;obtain ⟨a, cap, rfl⟩ := names_len hn;have HRK := Lib.hid (fun W => refRank_any vs.length 0 (.var k) (by show (k : Int) < _; omega) s W);simp only [opOf, nOf] at HRK ⊢;obtain ⟨t, hs⟩ : ∃ t, vs[k]? = some t := ⟨_, List.getElem?_eq_getElem hk⟩;have htx : text vs (.var k) = t := by unfold text pieces; rw [List.getD_eq_getElem?_getD, hs]; simp
 obtain ⟨b, off, rfl, hcv⟩ := names_at hn hs;have HTX := Lib.hid htx;have HCV := Lib.hid hcv;have hkI : (k : Int) < (vs.length : Int) := by omega
 clear htx hs ht hn hcv;go_enter Tryz.func79, Tryz.ntmps79;go_wp2_with fail;refine (HRK.out _).mono ?_;rintro _ w1 ⟨rfl, hb1⟩;obtain ⟨c0, c1, c2, hbw⟩ := box_cells (below_box _ _ _ _ hb1);have HB1 := Lib.hid hbw;clear hb1 hbw;have hcv1 := cell_kept HB1.out HCV.out;go_wp2_with fail;go_ret;exact ⟨ret_str (by rw [HTX.out]), HB1.out⟩
set_option maxRecDepth 100000 in
set_option maxHeartbeats 800000 in
theorem plain_arg (vs : List Bs) (k : Nat) (na : Int) (hk : (k : Int) < na) (hna : na <= 9223372036854775807) : Plains vs (.arg k) := by
 intro w s v ht hn;obtain ⟨a, cap, rfl⟩ := names_len hn;have HRK := Lib.hid (fun W => refRank_any vs.length na (.arg k) hk s W);simp only [opOf, nOf] at HRK ⊢;have htx : text vs (.arg k) = [36] ++ dig k := by unfold text pieces; simp
 have hsz : (str (dig k)).size <= 19 := by rw [str_size]; exact dig_length63 k (by omega)
 have HDG := Lib.hid (fun W => refDigits_any k W (by omega));have HTX := Lib.hid htx;clear htx ht hn;go_enter Tryz.func79, Tryz.ntmps79;go_wp2_with fail;refine (HRK.out _).mono ?_;rintro _ w1 ⟨rfl, hb1⟩;obtain ⟨c0, c1, c2, hbw⟩ := box_cells (below_box _ _ _ _ hb1);have HB1 := Lib.hid hbw;clear hb1 hbw;go_wp2_with fail;refine (HDG.out _).mono ?_;rintro _ w2 ⟨rfl, hb2⟩;have HB2 := Lib.hid (HB1.out.trans (hb2.mono HB1.out.size));clear hb2;go_wp2_with fail;go_ret;exact ⟨ret_str (by rw [HTX.out, <- str_append]; rfl), HB2.out⟩
set_option maxRecDepth 100000 in
set_option maxHeartbeats 800000 in
theorem plain_not (vs : List Bs) (nv na : Int) (e : Ex) (hw : WF nv na (.un 5 e)) (hp : Plains vs e) (hlen : (text vs e).length <= 9223372036854775000) : Plains vs (.un 5 e) := by
 intro w s v ht hn;obtain ⟨a, cap, rfl⟩ := names_len hn;have HRK := Lib.hid (fun W => refRank_any nv na (.un 5 e) hw s W);obtain ⟨-, -, g, off, kcap, o1, x1, s1, rfl, k0, k1, k2, t1⟩ := ht;obtain ⟨rfl, rfl⟩ := t1.root;have htx : text vs (.un 5 e) = [33] ++ shw vs e 6 := by rw [<- shw_eq]; unfold text; rw [pieces, if_neg (by decide)]; simp
 have HSH := Lib.hid (fun W (h : Below w.heap.size w W) => refShown_of vs nv na e hw.2 hp 6 (by decide) hlen W s1 (.slice a vs.length cap) (t1.below h e) (Sl.below hn h));have hsz : (str (shw vs e 6)).size <= 9223372036854775002 := by
  rw [str_size]; unfold shw; split
  ·simp; omega
  ·omega
 simp only [opOf, nOf] at HRK ⊢;obtain ⟨O, hO⟩ : ∃ O, opOf e = O := ⟨_, rfl⟩;obtain ⟨X, hX⟩ : ∃ X, nOf e = X := ⟨_, rfl⟩;obtain ⟨T, hT⟩ : ∃ T, shw vs e 6 = T := ⟨_, rfl⟩;rw [hO] at k0 HSH;rw [hX] at k1 HSH;rw [hT] at HSH htx hsz;have HTX := Lib.hid htx;have K0 := Lib.hid k0;have K1 := Lib.hid k1;have K2 := Lib.hid k2;clear htx hn k0 k1 k2 t1 hO hX hT hlen hp;go_enter Tryz.func79, Tryz.ntmps79;go_wp2_with fail;refine (HRK.out _).mono ?_;rintro _ w1 ⟨rfl, hb1⟩;obtain ⟨c0, c1, c2, hbw⟩ := box_cells (below_box _ _ _ _ hb1);have HB1 := Lib.hid hbw;clear hb1 hbw;have k0 := cell_kept HB1.out K0.out;have k1 := cell_kept HB1.out K1.out;have k2 := cell_kept HB1.out K2.out;go_wp2_with fail;refine (HSH.out _ HB1.out).mono ?_;rintro _ w2 ⟨rfl, hb2⟩;have HB2 := Lib.hid (HB1.out.trans (hb2.mono HB1.out.size));clear hb2;go_wp2_with fail;go_ret;exact ⟨ret_str (by rw [HTX.out, <- str_append]; rfl), HB2.out⟩
abbrev Rt := Int × Int × Value
def cells3 (ts : List Rt) : List Value := ts.flatMap fun t => [.int .i64 t.1, .int .i64 t.2.1, t.2.2]
theorem cells3_cons (t : Rt) (r : List Rt) : cells3 (t :: r) = .int .i64 t.1 :: .int .i64 t.2.1 :: t.2.2 :: cells3 r := by simp [cells3]
theorem cells3_append (a b : List Rt) : cells3 (a ++ b) = cells3 a ++ cells3 b := by simp [cells3]
theorem cells3_length (ts : List Rt) : (cells3 ts).length = ts.length * 3 := by
 induction ts with
 | nil => rfl
 | cons t r ih => rw [cells3_cons]; simp only [List.length_cons, ih]; omega
theorem cells3_at (ts : List Rt) (j : Nat) (t : Rt) (h : ts[j]? = some t) : (cells3 ts)[j * 3]? = some (.int .i64 t.1) /\ (cells3 ts)[j * 3 + 1]? = some (.int .i64 t.2.1) /\ (cells3 ts)[j * 3 + 2]? = some t.2.2 := by
 induction ts generalizing j with
 | nil => simp at h
 | cons x r ih =>
  rw [cells3_cons];cases j with
  | zero => simp at h; subst h; exact ⟨rfl, rfl, rfl⟩
  | succ j =>
   have h' : r[j]? = some t := by simpa using h
   have := ih j h';rw [show (j + 1) * 3 = j * 3 + 1 + 1 + 1 by omega];simpa using this
def SlT (w : World) (v : Value) (ts : List Rt) : Prop :=
 ∃ a cap, v = .slice a ts.length cap /\ ∀ j t, ts[j]? = some t -> ∃ b off, a = some ⟨b, off, none⟩ /\ w.cell? ⟨b, off + j * 3, none⟩ = some (.int .i64 t.1) /\ w.cell? ⟨b, off + j * 3 + 1, none⟩ = some (.int .i64 t.2.1) /\ w.cell? ⟨b, off + j * 3 + 2, none⟩ = some t.2.2
theorem SlT.below {w w' : World} {v : Value} {ts : List Rt} (h : SlT w v ts) (hb : Below w.heap.size w w') : SlT w' v ts := by
 obtain ⟨a, cap, rfl, hc⟩ := h;refine ⟨a, cap, rfl, fun j t hj => ?_⟩;obtain ⟨b, off, ha, h1, h2, h3⟩ := hc j t hj;exact ⟨b, off, ha, cell_kept hb h1, cell_kept hb h2, cell_kept hb h3⟩
theorem SlT.owns {w : World} {base : Nat} {e : TypeId} {v : Value} {n : Nat} {ts : List Rt} (h : w.ownsRow base e 3 v n (cells3 ts)) : SlT w v ts := by
 obtain ⟨hl, h⟩ := h;rw [cells3_length] at hl;rcases h with ⟨rfl, h0⟩ | ⟨g, cap, cur, rfl, _, hg, _, _, _, ht⟩
 ·have : ts = [] := List.eq_nil_of_length_eq_zero (by omega)
  subst this;exact ⟨none, 0, rfl, fun j t hj => by simp at hj⟩
 ·obtain rfl : n = ts.length := by omega
  refine ⟨_, cap, rfl, fun j t hj => ⟨g, 0, rfl, ?_⟩⟩;have hp := cells3_at ts j t hj;rw [<- ht] at hp;have h1 := Lib.cells_of_row hg (ts.length * 3) (j * 3) _ hp.1;have h2 := Lib.cells_of_row hg (ts.length * 3) (j * 3 + 1) _ hp.2.1;have h3 := Lib.cells_of_row hg (ts.length * 3) (j * 3 + 2) _ hp.2.2;rw [Lib.addr_add] at h1 h2 h3;exact ⟨h1, h2, h3⟩
theorem SlT.news {w : World} {a : Option Addr} {len cap : Nat} {ts : List Rt} (h : SlT w (.slice a len cap) ts) : (a = none -> ts = []) /\ ∀ ad, a = some ad -> ∀ j u, (cells3 ts)[j]? = some u -> w.cell? (ad.add j) = some u := by
 obtain ⟨a', cap', e, hc⟩ := h;cases e
 constructor
 ·intro ha
  match ts, hc with
  | [], _ => rfl
  | t :: r, hc =>
   obtain ⟨b, off, e, _⟩ := hc 0 t rfl;rw [ha] at e; cases e
 ·intro ad ha j u hj
  have hlt : j < ts.length * 3 := by have := (List.getElem?_eq_some_iff.1 hj).1; rwa [cells3_length] at this
  obtain ⟨t, ht⟩ : ∃ t, ts[j / 3]? = some t := ⟨_, List.getElem?_eq_getElem (by omega)⟩;have hp := cells3_at ts (j / 3) t ht;obtain ⟨b, off, hb, h1, h2, h3⟩ := hc _ t ht;rw [hb] at ha;cases ha
  rw [Lib.addr_add];rcases (show j % 3 = 0 \/ j % 3 = 1 \/ j % 3 = 2 by omega) with hm | hm | hm
  ·have e : j = j / 3 * 3 := by omega
   rw [e] at hj ⊢;rw [hp.1] at hj;cases hj
   exact h1
  ·have e : j = j / 3 * 3 + 1 := by omega
   rw [e] at hj ⊢;rw [hp.2.1] at hj;cases hj
   exact h2
  ·have e : j = j / 3 * 3 + 2 := by omega
   rw [e] at hj ⊢;rw [hp.2.2] at hj;cases hj
   exact h3
def Trees (w : World) (ts : List Rt) (es : List Ex) : Prop := ts.length = es.length /\ (∀ (j : Nat) (t : Rt) (e : Ex), ts[j]? = some t -> es[j]? = some e -> TreeIs w e t.1 t.2.1 t.2.2) /\ ∀ t ∈ ts, ∃ a n c, t.2.2 = Value.slice a n c
theorem Trees.below {w w' : World} {ts : List Rt} {es : List Ex} (h : Trees w ts es) (hb : Below w.heap.size w w') : Trees w' ts es := ⟨h.1, fun j t e h1 h2 => (h.2.1 j t e h1 h2).below hb e, h.2.2⟩
theorem Trees.nil (w : World) : Trees w [] [] := ⟨rfl, fun j t e h _ => by simp at h, by simp⟩
theorem Trees.take {w : World} {ts : List Rt} {es : List Ex} (h : Trees w ts es) (n : Nat) : Trees w (ts.take n) (es.take n) := by
 refine ⟨by rw [List.length_take, List.length_take, h.1], fun j t e h1 h2 => ?_, fun t ht => h.2.2 t (List.mem_of_mem_take ht)⟩;rw [List.getElem?_take] at h1 h2;split at h1
 ·rename_i hj
  rw [if_pos hj] at h2;exact h.2.1 j t e h1 h2
 ·cases h1
theorem Trees.drop {w : World} {ts : List Rt} {es : List Ex} (h : Trees w ts es) (n : Nat) : Trees w (ts.drop n) (es.drop n) := by
 refine ⟨by rw [List.length_drop, List.length_drop, h.1], fun j t e h1 h2 => ?_, fun t ht => h.2.2 t (List.mem_of_mem_drop ht)⟩;rw [List.getElem?_drop] at h1 h2;exact h.2.1 _ t e h1 h2
theorem Trees.snoc {w : World} {ts : List Rt} {es : List Ex} {t : Rt} {e : Ex} (h : Trees w ts es) (ht : TreeIs w e t.1 t.2.1 t.2.2) (h1c : ∃ a n c, t.2.2 = Value.slice a n c) : Trees w (ts ++ [t]) (es ++ [e]) := by
 refine ⟨by rw [List.length_append, List.length_append, h.1]; rfl, fun j t' e' h1 h2 => ?_, fun t' ht' => by rcases List.mem_append.1 ht' with h' | h'; exact h.2.2 t' h'; rw [List.mem_singleton.1 h']; exact h1c⟩;rw [List.getElem?_append] at h1 h2;rw [h.1] at h1;split at h1
 ·rename_i hj
  rw [if_pos hj] at h2;exact h.2.1 j t' e' h1 h2
 ·rename_i hj
  rw [if_neg hj] at h2;have e0 : j - es.length = 0 := by have := (List.getElem?_eq_some_iff.1 h1).1; simpa using this
  rw [e0] at h1 h2;cases h1; cases h2
  exact ht
theorem SlT.take {w : World} {a : Option Addr} {cap : Nat} {ts : List Rt} (h : SlT w (.slice a ts.length cap) ts) (n : Nat) (hn : n <= ts.length) (c : Nat) : SlT w (.slice a n c) (ts.take n) := by
 obtain ⟨a', cap', e, hc⟩ := h;cases e
 refine ⟨a, c, by rw [List.length_take, Nat.min_eq_left hn], fun j t hj => ?_⟩;rw [List.getElem?_take] at hj;split at hj
 ·exact hc j t hj
 ·cases hj
theorem SlT.drop {w : World} {a : Option Addr} {cap : Nat} {ts : List Rt} (h : SlT w (.slice a ts.length cap) ts) (n : Nat) (hn : n <= ts.length) (c : Nat) (a2 : Option Addr) (ha : n < ts.length -> ∀ b off, a = some ⟨b, off, none⟩ -> a2 = some ⟨b, off + n * 3, none⟩) : SlT w (.slice a2 (ts.length - n) c) (ts.drop n) := by
 obtain ⟨a', cap', e, hc⟩ := h;cases e
 refine ⟨a2, c, by rw [List.length_drop], fun j t hj => ?_⟩;rw [List.getElem?_drop] at hj;obtain ⟨b, off, hb, h1, h2, h3⟩ := hc _ t hj;have hlt : n < ts.length := by have := (List.getElem?_eq_some_iff.1 hj).1; omega
 refine ⟨b, off + n * 3, ha hlt b off hb, ?_, ?_, ?_⟩
 ·rw [show off + n * 3 + j * 3 = off + (n + j) * 3 by omega]; exact h1
 ·rw [show off + n * 3 + j * 3 + 1 = off + (n + j) * 3 + 1 by omega]; exact h2
 ·rw [show off + n * 3 + j * 3 + 2 = off + (n + j) * 3 + 2 by omega]; exact h3
theorem tree_node {w : World} {ks : List Rt} {es : List Ex} {v : Value} (o x : Int) (hs : SlT w v ks) (ht : Trees w ks es) :
 (∀ a, es = [a] -> x = 0 -> TreeIs w (.un o a) o x v) /\ (∀ a b, es = [a, b] -> x = 0 -> TreeIs w (.bin o a b) o x v) /\ (∀ a b c, es = [a, b, c] -> o = 16 -> x = 0 -> TreeIs w (.ite a b c) o x v) := by
 obtain ⟨a0, cap, rfl, hc⟩ := hs;refine ⟨?_, ?_, ?_⟩
 ·rintro a rfl rfl
  match ks, ht, hc with
  | [t], ht, hc =>
   obtain ⟨b, off, rfl, h1, h2, h3⟩ := hc 0 t rfl;exact ⟨rfl, rfl, b, off, cap, t.1, t.2.1, t.2.2, rfl, h1, h2, h3, ht.2.1 0 t a rfl rfl⟩
  | [], ht, _ => exact absurd ht.1 (by simp)
  | _ :: _ :: _, ht, _ => exact absurd ht.1 (by simp)
 ·rintro a b rfl rfl
  match ks, ht, hc with
  | [t, t'], ht, hc =>
   obtain ⟨bk, off, rfl, h1, h2, h3⟩ := hc 0 t rfl;obtain ⟨bk', off', e, k1, k2, k3⟩ := hc 1 t' rfl;cases e
   exact ⟨rfl, rfl, bk, off, cap, t.1, t.2.1, t.2.2, t'.1, t'.2.1, t'.2.2, rfl, h1, h2, h3, ht.2.1 0 t a rfl rfl, k1, k2, k3, ht.2.1 1 t' b rfl rfl⟩
  | [], ht, _ => exact absurd ht.1 (by simp)
  | [_], ht, _ => exact absurd ht.1 (by simp)
  | _ :: _ :: _ :: _, ht, _ => exact absurd ht.1 (by simp)
 ·rintro a b c rfl rfl rfl
  match ks, ht, hc with
  | [t, t', t''], ht, hc =>
   obtain ⟨bk, off, rfl, h1, h2, h3⟩ := hc 0 t rfl;obtain ⟨bk', off', e, k1, k2, k3⟩ := hc 1 t' rfl;cases e
   obtain ⟨bk', off', e, m1, m2, m3⟩ := hc 2 t'' rfl;cases e
   exact ⟨rfl, rfl, bk, off, cap, t.1, t.2.1, t.2.2, t'.1, t'.2.1, t'.2.2, t''.1, t''.2.1, t''.2.2, rfl, h1, h2, h3, ht.2.1 0 t a rfl rfl, k1, k2, k3, ht.2.1 1 t' b rfl rfl, m1, m2, m3, ht.2.1 2 t'' c rfl rfl⟩
  | [], ht, _ => exact absurd ht.1 (by simp)
  | [_], ht, _ => exact absurd ht.1 (by simp)
  | [_, _], ht, _ => exact absurd ht.1 (by simp)
  | _ :: _ :: _ :: _ :: _, ht, _ => exact absurd ht.1 (by simp)
theorem cells3_one {w : World} {ts : List Rt} {es : List Ex} (h : Trees w ts es) : ∀ u ∈ cells3 ts, u.oneCell' = true := by
 intro u hu;obtain ⟨t, ht, hu⟩ := List.mem_flatMap.1 hu;simp only [List.mem_cons, List.not_mem_nil, or_false] at hu;rcases hu with rfl | rfl | rfl
 ·rfl
 ·rfl
 ·obtain ⟨a, n, c, e⟩ := h.2.2 t ht
  rw [e]; rfl
section
variable {P : Program} {w : World}
theorem run_append_none_cap (base : Nat) (t ty e : TypeId) (i : TypeInfo) (size : Nat) (ht : P.underlying t = some (.slice e)) (hi : P.info? e = some i)
 (v : Value) (n c : Nat) (xs : List Value) (hown : w.ownsRow base e size v n xs) :
 (Builtin.append_ #[t, t] ty #[v, .slice none 0 c]).run P w = .ok v w := by
 rcases hown.2 with ⟨rfl, rfl⟩ | ⟨g, cap, cur, rfl, _, _, hnc, _⟩
 ·simp [Builtin.append_, run_underlying ht, sizeOf, typeInfo, hi, Builtin.lenOf, Builtin.firstCells]
 ·simp [Builtin.append_, run_underlying ht, sizeOf, typeInfo, hi, Builtin.lenOf, Builtin.firstCells, hnc, storeCells]
theorem step_append_all {ops : Array Oper} {o : Oper} {a : Act} {K : Act -> World -> Prop} {Q : Exit -> Act -> World -> Prop} {E : Prop} (hgd : o.guard = none) (s x : Operand) (t : TypeId)
 (ho : o.op = .call { callee := .builtin .append, args := #[s, x], argTypes := #[t, t] })
 (base : Nat) (e : TypeId) (i : TypeInfo) (z : Value) (size bytes : Nat) (ht : P.underlying t = some (.slice e)) (hi : P.info? e = some i) (hz : i.zero = some z)
 (hsize : i.size = size) (hby : i.bytes = bytes) (hzs : z.cells.size = size) (hsz : 0 < size)
 (v : Value) (n : Nat) (xs : List Value) (hs : a.eval s = v) (hown : w.ownsRow base e size v n xs)
 (ao : Option Addr) (m c : Nat) (news : List Value) (hx : a.eval x = .slice ao m c) (hl : news.length = m * size) (hnone : ao = none -> m = 0) (hnews : ∀ ad, ao = some ad -> ∀ j u, news[j]? = some u -> w.cell? (ad.add j) = some u) (h1 : ∀ u ∈ news, u.oneCell' = true)
 (h63 : n + m <= maxLen) (hbytes : (n + m) * bytes <= 140737488355328) (hbase : base <= w.heap.size)
 (h : ∀ v' w', w'.ownsRow base e size v' (n + m) (xs ++ news) -> w.grownBy w' v.ownBlock -> (v'.ownBlock = v.ownBlock \/ v'.ownBlock = some w.heap.size) -> K (a.put o.dst v') w') :
 if Region.wanted o (yielded ops a.tmps) = true then Oper.wp P o a w K Q else E := by
 have hw : Region.wanted o (yielded ops a.tmps) = true := by simp [Region.wanted, hgd]
 rw [if_pos hw];cases ao with
 | some ad =>
  obtain ⟨v', w', hr, h2, h3, _, h5⟩ := run_append_own_at (P := P) w base t o.type e i z size bytes ht hi hz hsize hby hzs hsz v n xs hown ad m c news hl (hnews ad rfl) h1 h63 hbytes hbase;unfold Oper.wp execOp;simp only [ho, resolve, invoke, builtin, Sem.run_bind, Sem.run_pure, Result.andThen_ok, List.map_toArray, List.map_cons, List.map_nil, hs, hx, hr];exact h v' w' h2 h3 h5
 | none =>
  obtain rfl := hnone rfl;have hn : news = [] := List.eq_nil_of_length_eq_zero (by simpa using hl);subst hn;have hr := run_append_none_cap (P := P) base t o.type e i size ht hi v n c xs hown;unfold Oper.wp execOp;simp only [ho, resolve, invoke, builtin, Sem.run_bind, Sem.run_pure, Result.andThen_ok, List.map_toArray, List.map_cons, List.map_nil, hs, hx, hr];exact h v w (by simpa using hown) (World.grownBy.refl _ _) (Or.inl rfl)
end
end Go.Proofs.YtjcajeehgjpmmaaGreatDoor.I
namespace Go.Proofs.YtjcajeehgjpmmaaGreatDoor.E
open Go Go.RowKit B K
set_option linter.unusedVariables false
theorem takes_table (k : Nat) (h1 : 1 <= k) (h2 : k <= 16) :
 (#[Value.int .i64 (-1), .int .i64 0, .int .i64 0, .int .i64 0, .int .i64 1, .int .i64 1, .int .i64 2, .int .i64 2, .int .i64 2, .int .i64 2, .int .i64 2, .int .i64 2, .int .i64 2, .int .i64 2, .int .i64 2, .int .i64 2, .int .i64 3] : Array Value)[k]? = some (.int .i64 (takes (k : Int))) := by
 rcases (show k = 1 \/ k = 2 \/ k = 3 \/ k = 4 \/ k = 5 \/ k = 6 \/ k = 7 \/ k = 8 \/ k = 9 \/ k = 10 \/ k = 11 \/ k = 12 \/ k = 13 \/ k = 14 \/ k = 15 \/ k = 16 by omega) with
  rfl | rfl | rfl | rfl | rfl | rfl | rfl | rfl | rfl | rfl | rfl | rfl | rfl | rfl | rfl | rfl <;> rfl
set_option maxHeartbeats 400000 in
theorem refTakes_any (o : Int) (w : World) :
 Calls Tryz.prog 124 #[.int .i64 o] w fun e w' => e = .returned (.int .i64 (takes o)) /\ Below w.heap.size w w' := by
 by_cases hin : 1 <= o /\ o <= 16
 ·obtain ⟨k, rfl⟩ := Int.eq_ofNat_of_zero_le (show 0 <= o by omega)
  have ht := takes_table k (by omega) (by omega);have hc : (w.alloc (.cells #[Value.int .i64 (-1), .int .i64 0, .int .i64 0, .int .i64 0, .int .i64 1, .int .i64 1, .int .i64 2, .int .i64 2, .int .i64 2, .int .i64 2, .int .i64 2, .int .i64 2, .int .i64 2, .int .i64 2, .int .i64 2, .int .i64 2, .int .i64 3] 3)).cell? ⟨w.heap.size, k, none⟩ = some (.int .i64 (takes (k : Int))) := by
   rw [cell_of_row _ _ _ _ 3 (0, 0) (heap_alloc_at _ _)]; exact ht
  obtain ⟨T, hT⟩ : ∃ T, takes (k : Int) = T := ⟨_, rfl⟩;rw [hT] at hc ⊢;have h1 : ¬ (k : Int) < 1 := by omega
  have h2 : ¬ 16 < (k : Int) := by omega
  have h3 : (k : Int) < 17 := by omega
  clear ht hT hin;go_enter Tryz.func124, Tryz.ntmps124;go_wp2_with fail;go_ret;exact ⟨rfl, (Below.refl _ _).alloc (Nat.le_refl _) _⟩
 ·have ht : takes o = -1 := by unfold takes; rw [if_pos (by omega)]
  rw [ht];by_cases h1 : o < 1
  ·clear ht hin
   go_enter Tryz.func124, Tryz.ntmps124;go_wp2_with fail;go_ret;exact ⟨rfl, (Below.refl _ _).alloc (Nat.le_refl _) _⟩
  ·have h2 : 16 < o := by omega
   clear ht hin;go_enter Tryz.func124, Tryz.ntmps124;go_wp2_with fail;go_ret;exact ⟨rfl, (Below.refl _ _).alloc (Nat.le_refl _) _⟩
set_option maxHeartbeats 400000 in
theorem refValue_any (n : Int) (w : World) : Calls Tryz.prog 17 #[.int .i64 n] w fun e w' => e = .returned (.bool (isVal n)) /\ w = w' := by
 by_cases h1 : -1099511627776 <= n
 ·by_cases h2 : n <= 1099511627776
  ·have hv : isVal n = true := (isVal_iff n).2 ⟨h1, h2⟩
   rw [hv]; clear hv
   go_enter Tryz.func17, Tryz.ntmps17;go_wp2_with fail;go_ret;exact ⟨rfl, rfl⟩
  ·have hv : isVal n = false := (isVal_not n).2 (by omega)
   rw [hv]; clear hv
   go_enter Tryz.func17, Tryz.ntmps17;go_wp2_with fail;go_ret;exact ⟨rfl, rfl⟩
 ·have hv : isVal n = false := (isVal_not n).2 (by omega)
  rw [hv]; clear hv
  go_enter Tryz.func17, Tryz.ntmps17;go_wp2_with fail;go_ret;exact ⟨rfl, rfl⟩
set_option maxHeartbeats 1000000 in
theorem refCheckLoop_any (code : List In) (v : Value) (nv na : Int) (w : World) (hs : SlI w v code) (hl : code.length <= 31) (hv : ¬ nv < 0) (ha : ¬ na < 0) :
 Calls Tryz.prog 78 #[v, .int .i64 nv, .int .i64 na] w fun e w' => e = .returned (.tuple #[.int .i64 (chk nv na code 0 0).1, .int .i64 (chk nv na code 0 0).2]) /\ Below w.heap.size w w' := by
 have HS := Lib.hid hs;obtain ⟨a, cap, rfl, -⟩ := hs;have HL := Lib.hid hl;obtain ⟨n, hN⟩ : ∃ n, code.length = n := ⟨_, rfl⟩;rw [hN] at HL hl;have HN := Lib.hid hN;rw [hN] at HS ⊢;have hl' : ¬ 31 < (n : Int) := by omega
 clear hN hl;go_enter Tryz.func78, Tryz.ntmps78;go_wp2_with fail;go_loopw [8, 9, 10, 11] (fun r k _ _ wr => ∃ (R : Int) (K : Nat), r = .int .i64 R /\ k = .int .i64 (K : Int) /\ K <= n /\ 0 <= R /\ R <= K /\ Hid (chk nv na (code.drop K) K R = chk nv na code 0 0) /\ Hid (Below w.heap.size w wr)) (fun _ k _ _ _ => n - (intOf k).toNat)
 case atStart => exact ⟨0, 0, rfl, rfl, Nat.zero_le _, by omega, by omega, rfl, Below.refl _ _⟩
 case round =>
  obtain ⟨R, K, rfl, rfl, hK, hR0, hR1, HD, HBE⟩ := hrel;by_cases hlt : K < n
  ·obtain ⟨i, hi⟩ : ∃ i, code[K]? = some i := ⟨_, List.getElem?_eq_getElem (by rw [HN.out]; exact hlt)⟩
   obtain ⟨a', cap', e, hc⟩ := HS.out.below HBE.out;obtain ⟨b, off, rfl, h1, h2⟩ := hc K i hi;obtain ⟨T, hT⟩ : ∃ T, takes i.1 = T := ⟨_, rfl⟩;have hr := takes_range i.1;have hd := chk_at nv na code K i hi R;have htk := fun W => refTakes_any i.1 W
   rw [hT] at hr hd htk;rw [HD.out] at hd;have HTK := Lib.hid htk;have HDD := Lib.hid hd;have hwK : IntKind.i64.wrap ((K : Int) + 1) = (K : Int) + 1 := IntWalk.i64_in _ (by have := HL.out; omega);obtain ⟨o, x⟩ := i;clear hT hd htk hi hc HD;go_wp2_with fail;refine (HTK.out _).mono ?_;rintro _ w1 ⟨rfl, hb1⟩;obtain ⟨c0, c1, hlt1, hbw⟩ := pair_after hb1;have HBE1 := Lib.hid (HBE.out.trans (hbw.mono HBE.out.size));clear hb1 hbw h1 h2;by_cases hneg : T < 0
   ·have hd2 := HDD.out
    rw [if_pos hneg] at hd2;have HD2 := Lib.hid hd2; clear hd2
    go_wp2_with fail;go_ret2;exact ⟨ret_pair HD2.out.symm, HBE1.out⟩
   have hn0 : 0 <= T := by omega
   have hw1 : IntKind.i64.wrap (R - T) = R - T := IntWalk.i64_in _ (by have := HL.out; omega);have hw2 : IntKind.i64.wrap (R - T + 1) = R - T + 1 := IntWalk.i64_in _ (by have := HL.out; omega);by_cases o1 : o = 1
   ·subst o1
    have hrt := right_one x nv na;cases hV : isVal x with
    | false =>
     rw [hV] at hrt;have HRT := Lib.hid hrt; clear hrt
     have HV := Lib.hid (fun W => (show Calls Tryz.prog 17 #[.int .i64 x] W fun e w' => e = .returned (.bool false) /\ W = w' by rw [<- hV]; exact refValue_any x W));clear hV;have hd2 := HDD.out;rw [if_neg (by omega), HRT.out, if_pos rfl] at hd2;have HD2 := Lib.hid hd2; clear hd2
     go_wp2_with (go_at_call 17; refine (HV.out _).mono ?_; rintro _ wv ⟨rfl, rfl⟩)
     go_ret2;exact ⟨ret_pair HD2.out.symm, HBE1.out⟩
    | true =>
     rw [hV] at hrt;have HRT := Lib.hid hrt; clear hrt
     have HV := Lib.hid (fun W => (show Calls Tryz.prog 17 #[.int .i64 x] W fun e w' => e = .returned (.bool true) /\ W = w' by rw [<- hV]; exact refValue_any x W));clear hV;have hd2 := HDD.out;rw [if_neg (by omega), HRT.out, if_neg (by decide)] at hd2;have HDT := Lib.hid hd2; clear hd2
     go_wp2_with (go_at_call 17; refine (HV.out _).mono ?_; rintro _ wv ⟨rfl, rfl⟩)
     refine (HTK.out _).mono ?_;rintro _ w2 ⟨rfl, hb2⟩;obtain ⟨d0, d1, hlt2⟩ := pair_next c0 c1 hlt1 hb2;have HBE2 := Lib.hid (HBE1.out.trans (hb2.mono HBE1.out.size));clear hb2;by_cases hsh : R < T
     ·have hd2 := HDT.out
      rw [if_pos hsh] at hd2;have HD2 := Lib.hid hd2; clear hd2
      go_wp2_with fail;go_ret2;exact ⟨ret_pair HD2.out.symm, HBE2.out⟩
     ·have hd2 := HDT.out
      rw [if_neg hsh] at hd2;have HD2 := Lib.hid hd2; clear hd2
      go_wp2_with fail;refine (HTK.out _).mono ?_;rintro _ w3 ⟨rfl, hb3⟩;have HBE3 := Lib.hid (HBE2.out.trans (hb3.mono HBE2.out.size));clear hb3;go_wp2_with fail;go_roundw
      case rel => exact ⟨R - T + 1, K + 1, by go_num, by go_num, by omega, by omega, by omega, HD2.out.symm, HBE3.out⟩
      case measure => simp [intOf]; omega
   by_cases o2 : o = 2
   ·subst o2
    have hrt := right_two x nv na;by_cases x0 : 0 <= x
    ·by_cases x1 : x < nv
     ·rw [decide_eq_true ⟨x0, x1⟩] at hrt
      have HRT := Lib.hid hrt; clear hrt
      have hd2 := HDD.out;rw [if_neg (by omega), HRT.out, if_neg (by decide)] at hd2;have HDT := Lib.hid hd2; clear hd2
      go_wp2_with fail;refine (HTK.out _).mono ?_;rintro _ w2 ⟨rfl, hb2⟩;obtain ⟨d0, d1, hlt2⟩ := pair_next c0 c1 hlt1 hb2;have HBE2 := Lib.hid (HBE1.out.trans (hb2.mono HBE1.out.size));clear hb2;by_cases hsh : R < T
      ·have hd2 := HDT.out
       rw [if_pos hsh] at hd2;have HD2 := Lib.hid hd2; clear hd2
       go_wp2_with fail;go_ret2;exact ⟨ret_pair HD2.out.symm, HBE2.out⟩
      ·have hd2 := HDT.out
       rw [if_neg hsh] at hd2;have HD2 := Lib.hid hd2; clear hd2
       go_wp2_with fail;refine (HTK.out _).mono ?_;rintro _ w3 ⟨rfl, hb3⟩;have HBE3 := Lib.hid (HBE2.out.trans (hb3.mono HBE2.out.size));clear hb3;go_wp2_with fail;go_roundw
       case rel => exact ⟨R - T + 1, K + 1, by go_num, by go_num, by omega, by omega, by omega, HD2.out.symm, HBE3.out⟩
       case measure => simp [intOf]; omega
     ·rw [decide_eq_false (by omega)] at hrt
      have HRT := Lib.hid hrt; clear hrt
      have bx1 : decide (x < nv) = false := decide_eq_false x1;have hd2 := HDD.out;rw [if_neg (by omega), HRT.out, if_pos rfl] at hd2;have HD2 := Lib.hid hd2; clear hd2
      go_wp2_with fail;go_ret2;exact ⟨ret_pair HD2.out.symm, HBE1.out⟩
    ·rw [decide_eq_false (by omega)] at hrt
     have HRT := Lib.hid hrt; clear hrt
     have hd2 := HDD.out;rw [if_neg (by omega), HRT.out, if_pos rfl] at hd2;have HD2 := Lib.hid hd2; clear hd2
     go_wp2_with fail;go_ret2;exact ⟨ret_pair HD2.out.symm, HBE1.out⟩
   by_cases o3 : o = 3
   ·subst o3
    have hrt := right_three x nv na;by_cases x0 : 0 <= x
    ·by_cases x1 : x < na
     ·rw [decide_eq_true ⟨x0, x1⟩] at hrt
      have HRT := Lib.hid hrt; clear hrt
      have hd2 := HDD.out;rw [if_neg (by omega), HRT.out, if_neg (by decide)] at hd2;have HDT := Lib.hid hd2; clear hd2
      go_wp2_with fail;refine (HTK.out _).mono ?_;rintro _ w2 ⟨rfl, hb2⟩;obtain ⟨d0, d1, hlt2⟩ := pair_next c0 c1 hlt1 hb2;have HBE2 := Lib.hid (HBE1.out.trans (hb2.mono HBE1.out.size));clear hb2;by_cases hsh : R < T
      ·have hd2 := HDT.out
       rw [if_pos hsh] at hd2;have HD2 := Lib.hid hd2; clear hd2
       go_wp2_with fail;go_ret2;exact ⟨ret_pair HD2.out.symm, HBE2.out⟩
      ·have hd2 := HDT.out
       rw [if_neg hsh] at hd2;have HD2 := Lib.hid hd2; clear hd2
       go_wp2_with fail;refine (HTK.out _).mono ?_;rintro _ w3 ⟨rfl, hb3⟩;have HBE3 := Lib.hid (HBE2.out.trans (hb3.mono HBE2.out.size));clear hb3;go_wp2_with fail;go_roundw
       case rel => exact ⟨R - T + 1, K + 1, by go_num, by go_num, by omega, by omega, by omega, HD2.out.symm, HBE3.out⟩
       case measure => simp [intOf]; omega
     ·rw [decide_eq_false (by omega)] at hrt
      have HRT := Lib.hid hrt; clear hrt
      have bx1 : decide (x < na) = false := decide_eq_false x1;have hd2 := HDD.out;rw [if_neg (by omega), HRT.out, if_pos rfl] at hd2;have HD2 := Lib.hid hd2; clear hd2
      go_wp2_with fail;go_ret2;exact ⟨ret_pair HD2.out.symm, HBE1.out⟩
    ·rw [decide_eq_false (by omega)] at hrt
     have HRT := Lib.hid hrt; clear hrt
     have hd2 := HDD.out;rw [if_neg (by omega), HRT.out, if_pos rfl] at hd2;have HD2 := Lib.hid hd2; clear hd2
     go_wp2_with fail;go_ret2;exact ⟨ret_pair HD2.out.symm, HBE1.out⟩
   have hrt := right_other o x nv na o1 o2 o3;have b1 : (o == 1) = false := by simp [o1]
   have b2 : (o == 2) = false := by simp [o2]
   have b3 : (o == 3) = false := by simp [o3]
   clear o1 o2 o3;by_cases x0 : x = 0
   ·subst x0
    rw [decide_eq_true rfl] at hrt;have HRT := Lib.hid hrt; clear hrt
    have hd2 := HDD.out;rw [if_neg (by omega), HRT.out, if_neg (by decide)] at hd2;have HDT := Lib.hid hd2; clear hd2
    go_wp2_with fail;refine (HTK.out _).mono ?_;rintro _ w2 ⟨rfl, hb2⟩;obtain ⟨d0, d1, hlt2⟩ := pair_next c0 c1 hlt1 hb2;have HBE2 := Lib.hid (HBE1.out.trans (hb2.mono HBE1.out.size));clear hb2;by_cases hsh : R < T
    ·have hd2 := HDT.out
     rw [if_pos hsh] at hd2;have HD2 := Lib.hid hd2; clear hd2
     go_wp2_with fail;go_ret2;exact ⟨ret_pair HD2.out.symm, HBE2.out⟩
    ·have hd2 := HDT.out
     rw [if_neg hsh] at hd2;have HD2 := Lib.hid hd2; clear hd2
     go_wp2_with fail;refine (HTK.out _).mono ?_;rintro _ w3 ⟨rfl, hb3⟩;have HBE3 := Lib.hid (HBE2.out.trans (hb3.mono HBE2.out.size));clear hb3;go_wp2_with fail;go_roundw
     case rel => exact ⟨R - T + 1, K + 1, by go_num, by go_num, by omega, by omega, by omega, HD2.out.symm, HBE3.out⟩
     case measure => simp [intOf]; omega
   ·rw [decide_eq_false x0] at hrt
    have HRT := Lib.hid hrt; clear hrt
    have bx : (x == 0) = false := by simp [x0]
    clear x0;have hd2 := HDD.out;rw [if_neg (by omega), HRT.out, if_pos rfl] at hd2;have HD2 := Lib.hid hd2; clear hd2
    go_wp2_with fail;go_ret2;exact ⟨ret_pair HD2.out.symm, HBE1.out⟩
  ·have hend : chk nv na code 0 0 = if R = 1 then (0, 0) else ((K : Int), 6) := by
    rw [<- HD.out, List.drop_eq_nil_of_le (by rw [HN.out]; omega)]; rfl
   have hltI : ¬ (K : Int) < (n : Int) := by omega
   have hKn : K = n := by omega
   by_cases hR : R = 1
   ·rw [if_pos hR] at hend
    have HE := Lib.hid hend; clear hend
    have bR : (R == 1) = true := by simp [hR]
    have bR' : (R != 1) = false := by simp [hR]
    clear hR hKn;go_wp2_with fail;go_ret2;exact ⟨ret_pair HE.out.symm, HBE.out⟩
   ·rw [if_neg hR, hKn] at hend
    have HE := Lib.hid hend; clear hend
    have bR : (R == 1) = false := by simp [hR]
    have bR' : (R != 1) = true := by simp [hR]
    clear hR hKn;go_wp2_with fail;go_ret2;exact ⟨ret_pair HE.out.symm, HBE.out⟩
theorem refCheck_any (code : List In) (v : Value) (nv na : Int) (w : World) (hs : SlI w v code) (hl : code.length <= 9223372036854775807) :
 Calls Tryz.prog 78 #[v, .int .i64 nv, .int .i64 na] w fun e w' => e = .returned (.tuple #[.int .i64 (check code nv na).1, .int .i64 (check code nv na).2]) /\ Below w.heap.size w w' := by
 by_cases hv : nv < 0
 ·have hc : check code nv na = (0, 2) := by unfold check; rw [if_pos (Or.inl hv)]
  rw [hc];obtain ⟨a, cap, rfl, -⟩ := hs;clear hc hl;go_enter Tryz.func78, Tryz.ntmps78;go_wp2_with fail;go_ret2;exact ⟨rfl, Below.refl _ _⟩
 by_cases ha : na < 0
 ·have hc : check code nv na = (0, 2) := by unfold check; rw [if_pos (Or.inr ha)]
  rw [hc];obtain ⟨a, cap, rfl, -⟩ := hs;clear hc hl;go_enter Tryz.func78, Tryz.ntmps78;go_wp2_with fail;go_ret2;exact ⟨rfl, Below.refl _ _⟩
 by_cases hb : 31 < code.length
 ·have hc : check code nv na = (0, 4) := by unfold check; rw [if_neg (by omega), if_pos hb]
  rw [hc];obtain ⟨a, cap, rfl, -⟩ := hs;have hbI : 31 < (code.length : Int) := by omega
  clear hc hl hb;go_enter Tryz.func78, Tryz.ntmps78;go_wp2_with fail;go_ret2;exact ⟨rfl, Below.refl _ _⟩
 ·have hc : check code nv na = chk nv na code 0 0 := by unfold check; rw [if_neg (by omega), if_neg hb]
  rw [hc];exact refCheckLoop_any code v nv na w hs (by omega) hv ha
end Go.Proofs.YtjcajeehgjpmmaaGreatDoor.E
namespace Go.Proofs.YtjcajeehgjpmmaaGreatDoor.I
open Go Go.RowKit B K E
set_option linter.unusedVariables false
theorem Tryz.infoTree : (Tryz.prog.info? 128).map (fun i => (i.zero, i.size, i.bytes)) = some (some (.agg #[.int .i64 0, .int .i64 0, .slice none 0 0]), 3, 40) := by kernel_rfl
theorem cutT_tail (W : World) (a : Option Addr) (L M cap : Nat) (hM : M <= L) :
 (Instr.sliceAt 126 (.slice a L cap) (some (.int .i64 (M : Int))) none none).run Tryz.prog W = .ok (.slice (if cap = M then a else a.map (·.add (M * 3))) (L - M) (cap - M)) W := by
 have he : Tryz.prog.underlying 126 = some (.slice (Tryz.prog.elem 126)) := by kernel_rfl
 have hs : (sizeOf (Tryz.prog.elem 126)).run Tryz.prog W = .ok 3 W := by kernel_rfl
 rw [run_sliceAt_slice W 126 _ _ _ _ he, run_slice_l W 126 _ _ _ he .i64 (M : Int) (by omega) (by omega), hs];simp only [Result.andThen, sliced, Int.toNat_natCast]
theorem cut_front (W : World) (a : Option Addr) (L M cap : Nat) (hM : M <= cap) :
 (Instr.sliceAt 126 (.slice a L cap) none (some (.int .i64 (M : Int))) none).run Tryz.prog W = .ok (.slice a M cap) W := by
 have he : Tryz.prog.underlying 126 = some (.slice (Tryz.prog.elem 126)) := by kernel_rfl
 have hs : (sizeOf (Tryz.prog.elem 126)).run Tryz.prog W = .ok 3 W := by kernel_rfl
 rw [run_sliceAt_slice W 126 _ _ _ _ he, run_slice_h W 126 _ _ _ he .i64 (M : Int) (by omega) (by omega), hs];simp only [Result.andThen, sliced, Int.toNat_natCast, Nat.zero_mul, Nat.sub_zero];cases a with
 | none => simp
 | some p =>
  obtain ⟨b, o, sp⟩ := p;cases sp <;> (split <;> simp [Addr.add])
theorem tree_nums (M K n : Nat) (h : M <= 30) (hn : n <= 31) (hK : K < n) : IntKind.i64.wrap (M : Int) = (M : Int) /\ wrap64 (M : Int) = (M : Int) /\ IntKind.i64.wrap ((K : Int) + 1) = (K : Int) + 1 :=
 ⟨IntWalk.i64_in _ (by omega), IntWalk.wrap64_in _ (by omega), IntWalk.i64_in _ (by omega)⟩
theorem own_empty (W : World) (base : Nat) (e : TypeId) (s : Nat) (h : base <= W.heap.size) : (W.alloc (.cells #[] e)).ownsRow base e s (.slice (some ⟨W.heap.size, 0, none⟩) 0 0) 0 [] :=
 ⟨by simp, Or.inr ⟨W.heap.size, 0, #[], rfl, h, heap_alloc_at _ _, Nat.le_refl _, Nat.zero_le _, by simp, by simp⟩⟩
theorem own_shape {w : World} {base : Nat} {e : TypeId} {s : Nat} {v : Value} {n : Nat} {xs : List Value} (h : w.ownsRow base e s v n xs) : ∃ a cap, v = .slice a n cap /\ n <= cap := by
 rcases h.2 with ⟨rfl, rfl⟩ | ⟨g, cap, cur, rfl, _, _, hn, _⟩
 ·exact ⟨none, 0, rfl, Nat.le_refl _⟩
 ·exact ⟨_, cap, rfl, hn⟩
theorem own_empty1 (W : World) (A : Obj) (base : Nat) (e : TypeId) (s : Nat) (h : base <= W.heap.size) : ((W.alloc A).alloc (.cells #[] e)).drew.ownsRow base e s (.slice (some ⟨W.heap.size + 1, 0, none⟩) 0 0) 0 [] := by
 have h1 := own_empty (W.alloc A) base e s (by simp; omega);rw [show (W.alloc A).heap.size = W.heap.size + 1 by simp] at h1;exact World.ownsRow.drew h1
theorem block_two (W : World) (A B : Obj) : ((W.alloc A).alloc B).drew.heap[W.heap.size + 1]? = some B := by
 have h := heap_alloc_at (W.alloc A) B;rw [show (W.alloc A).heap.size = W.heap.size + 1 by simp] at h;exact h
theorem block_one (W : World) (A B : Obj) : ((W.alloc A).alloc B).drew.heap[W.heap.size]? = some A := by
 show ((W.alloc A).alloc B).heap[W.heap.size]? = some A
 rw [Below.heap_alloc _ _ _ (by simp)];exact heap_alloc_at W A
def Stk (w : World) (v : Value) (st : List Ex) : Prop := ∃ a cap ts, v = .slice a st.length cap /\ st.length <= cap /\ SlT w v ts /\ Trees w ts st.reverse
theorem zero_cell {w : World} {B g j : Nat} {o : Int} (hB : w.heap[B]? = some (.cells #[.int .i64 0, .int .i64 0, .slice none 0 0] 128)) (h : w.cell? ⟨g, j, none⟩ = some (.int .i64 o)) (ho : 1 <= o) : g ≠ B := by
 rintro rfl;rw [cell_of_row _ _ _ _ 128 (0, 0) hB] at h;match j, h with
 | 0, h => simp at h; omega
 | 1, h => simp at h; omega
 | 2, h => simp at h
 | j + 3, h => simp at h
theorem op_pos (nv na : Int) (e : Ex) (hw : WF nv na e) : 1 <= opOf e := by
 cases e with
 | con n => show (1 : Int) <= 1; decide
 | var k => show (1 : Int) <= 2; decide
 | arg k => show (1 : Int) <= 3; decide
 | un o a => rcases hw.1 with rfl | rfl <;> (simp only [opOf]; decide)
 | bin o a b => have h := takes_is o; have h2 := hw.1; simp only [opOf]; omega
 | ite a b c => show (1 : Int) <= 16; decide
theorem tree_apart {w w' : World} {B : Nat} (nv na : Int) (hB : w.heap[B]? = some (.cells #[.int .i64 0, .int .i64 0, .slice none 0 0] 128)) (hg : w.grownBy w' (some B)) (e : Ex) : WF nv na e -> ∀ o x s, TreeIs w e o x s -> TreeIs w' e o x s := by
 have keep : ∀ {g j : Nat} {u : Value}, g ≠ B -> w.cell? ⟨g, j, none⟩ = some u -> w'.cell? ⟨g, j, none⟩ = some u := fun hne h => World.grownBy.cell hg h (fun e => hne (by cases e; rfl))
 have pos : ∀ (x : Ex) {g j : Nat} {o1 x1 : Int} {s1 : Value}, WF nv na x -> TreeIs w x o1 x1 s1 -> w.cell? ⟨g, j, none⟩ = some (.int .i64 o1) -> g ≠ B := by
  intro x g j o1 x1 s1 hx ht hc;exact zero_cell hB hc (by rw [ht.root.1]; exact op_pos nv na x hx)
 induction e with
 | con n => intro _ o x s h; exact h
 | var k => intro _ o x s h; exact h
 | arg k => intro _ o x s h; exact h
 | un o' a ih =>
  rintro hw o x s ⟨h1, h2, g, off, cap, o1, x1, s1, h3, c0, c1, c2, t1⟩;have hne := pos a hw.2 t1 c0;exact ⟨h1, h2, g, off, cap, o1, x1, s1, h3, keep hne c0, keep hne c1, keep hne c2, ih hw.2 _ _ _ t1⟩
 | bin o' a b iha ihb =>
  rintro hw o x s ⟨h1, h2, g, off, cap, o1, x1, s1, o2, x2, s2, h3, c0, c1, c2, t1, d0, d1, d2, t2⟩;have hne := pos a hw.2.1 t1 c0;exact ⟨h1, h2, g, off, cap, o1, x1, s1, o2, x2, s2, h3, keep hne c0, keep hne c1, keep hne c2, iha hw.2.1 _ _ _ t1, keep hne d0, keep hne d1, keep hne d2, ihb hw.2.2 _ _ _ t2⟩
 | ite a b c iha ihb ihc =>
  rintro hw o x s ⟨h1, h2, g, off, cap, o1, x1, s1, o2, x2, s2, o3, x3, s3, h3, c0, c1, c2, t1, d0, d1, d2, t2, e0, e1, e2, t3⟩;have hne := pos a hw.1 t1 c0;exact ⟨h1, h2, g, off, cap, o1, x1, s1, o2, x2, s2, o3, x3, s3, h3, keep hne c0, keep hne c1, keep hne c2, iha hw.1 _ _ _ t1, keep hne d0, keep hne d1, keep hne d2, ihb hw.2.1 _ _ _ t2, keep hne e0, keep hne e1, keep hne e2, ihc hw.2.2 _ _ _ t3⟩
theorem box_set {w0 w : World} {B : Nat} {o x : Int} {s : Value} (hB : w.heap[B]? = some (.cells #[.int .i64 0, .int .i64 0, .slice none 0 0] 128)) (hb : Below w0.heap.size w0 w) (h0 : w0.heap.size <= B) :
 (((w.setCell ⟨B, 0, none⟩ (.int .i64 o)).setCell ⟨B, 1, none⟩ (.int .i64 x)).setCell ⟨B, 2, none⟩ s).heap[B]? = some (.cells #[.int .i64 o, .int .i64 x, s] 128) /\
  w.grownBy (((w.setCell ⟨B, 0, none⟩ (.int .i64 o)).setCell ⟨B, 1, none⟩ (.int .i64 x)).setCell ⟨B, 2, none⟩ s) (some B) /\ Below w0.heap.size w0 (((w.setCell ⟨B, 0, none⟩ (.int .i64 o)).setCell ⟨B, 1, none⟩ (.int .i64 x)).setCell ⟨B, 2, none⟩ s) := by
 have set : ∀ (W : World) (j : Nat) (v : Value), W.grownBy (W.setCell ⟨B, j, none⟩ v) (some B) := fun W j v =>
  ⟨rfl, rfl, rfl, by simp [World.setCell], fun i _ hn => Below.heap_setCell _ _ _ i (fun e => hn (by rw [e]))⟩
 refine ⟨?_, ((set w 0 _).trans (set _ 1 _)).trans (set _ 2 _), ((hb.setCell h0 _).setCell h0 _).setCell h0 _⟩;have e1 := heap_setCell_same w B 0 _ 128 (.int .i64 o) hB;have e2 := heap_setCell_same _ B 1 _ 128 (.int .i64 x) e1;have e3 := heap_setCell_same _ B 2 _ 128 s e2;rw [e3];rfl
def NodeAt (w2 : World) (o x : Int) (t : Nat) (ks : List Rt) (s6 : Value) (W : World) : Prop :=
 ∃ B a c, s6 = .pointer (some ⟨B, 0, none⟩) /\ W.cell? ⟨B, 0, none⟩ = some (.int .i64 o) /\ W.cell? ⟨B, 1, none⟩ = some (.int .i64 x) /\ W.cell? ⟨B, 2, none⟩ = some (.slice a t c) /\ SlT W (.slice a t c) ks /\ Below w2.heap.size w2 W
theorem node_new {w2 w6 : World} {o x : Int} {t : Nat} {ks : List Rt} {a : Option Addr} {c base : Nat} (ho : w6.ownsRow base 128 3 (.slice a t c) t (cells3 ks)) (hb : Below w2.heap.size w2 w6) :
 NodeAt w2 o x t ks (.pointer (some ⟨w6.heap.size, 0, none⟩)) (w6.alloc (.cells #[.int .i64 o, .int .i64 x, .slice a t c] 128)) := by
 have hc : ∀ (k : Nat) u, (#[Value.int .i64 o, .int .i64 x, .slice a t c] : Array Value)[k]? = some u -> (w6.alloc (.cells #[.int .i64 o, .int .i64 x, .slice a t c] 128)).cell? ⟨w6.heap.size, k, none⟩ = some u := by
  intro k u hu; rw [cell_of_row _ _ _ _ 128 (0, 0) (heap_alloc_at _ _)]; exact hu
 exact ⟨_, a, c, rfl, hc 0 _ rfl, hc 1 _ rfl, hc 2 _ rfl, (SlT.owns ho).below ((Below.refl _ _).alloc (Nat.le_refl _) _), hb.alloc hb.size _⟩
theorem node_set {w2 w6 : World} {o x : Int} {t B : Nat} {ks : List Rt} {a : Option Addr} {c base : Nat} {cs : Array Value} (ho : w6.ownsRow base 128 3 (.slice a t c) t (cells3 ks)) (hb : Below w2.heap.size w2 w6)
 (hB : w6.heap[B]? = some (.cells cs 128 (0, 0))) (hs : cs.size = 3) (h2 : w2.heap.size <= B) (hne : (Value.slice a t c).ownBlock ≠ some B) :
 NodeAt w2 o x t ks (.pointer (some ⟨B, 0, none⟩)) (((w6.setCell ⟨B, 0, none⟩ (.int .i64 o)).setCell ⟨B, 1, none⟩ (.int .i64 x)).setCell ⟨B, 2, none⟩ (.slice a t c)) := by
 have e1 := heap_setCell_same w6 B 0 cs 128 (.int .i64 o) hB;have e2 := heap_setCell_same _ B 1 _ 128 (.int .i64 x) e1;have e3 := heap_setCell_same _ B 2 _ 128 (.slice a t c) e2;have o1 := ownsRow_setCell_other (ownsRow_setCell_other (ownsRow_setCell_other ho (a := ⟨B, 0, none⟩) hne (.int .i64 o)) (a := ⟨B, 1, none⟩) hne (.int .i64 x)) (a := ⟨B, 2, none⟩) hne (.slice a t c);refine ⟨B, a, c, rfl, ?_, ?_, ?_, SlT.owns o1, ((hb.setCell h2 _).setCell h2 _).setCell h2 _⟩
 ·rw [cell_of_row _ _ _ _ 128 (0, 0) e3]; simp [hs]
 ·rw [cell_of_row _ _ _ _ 128 (0, 0) e3]; simp [hs]
 ·rw [cell_of_row _ _ _ _ 128 (0, 0) e3]; simp [hs]
theorem own_apart {W w6 : World} {E B : Nat} {v : Value} {cs : Array Value} {T : TypeId} (hg : W.grownBy w6 (some E)) (hB : W.heap[B]? = some (.cells cs T (0, 0))) (hne : B ≠ E)
 (hat : v.ownBlock = some E \/ v.ownBlock = some W.heap.size \/ v.ownBlock = none) : w6.heap[B]? = some (.cells cs T (0, 0)) /\ v.ownBlock ≠ some B := by
 have hlt : B < W.heap.size := (Array.getElem?_eq_some_iff.1 hB).1;refine ⟨(hg.block B hlt (fun e => hne (by cases e; rfl))).trans hB, ?_⟩;rcases hat with h | h | h
 ·rw [h]; intro e; cases e; exact hne rfl
 ·rw [h]; intro e; cases e; omega
 ·rw [h]; intro e; cases e
theorem push_tree (nv na : Int) (st : List Ex) (o x : Int) (t : Nat) (ht : takes o = (t : Int)) (hr : right (o, x) nv na = true) (hl : t <= st.length) :
 ∃ e', push st (o, x) = e' :: st.drop t /\ ∀ (w : World) (v : Value) (ks : List Rt), SlT w v ks -> Trees w ks (st.take t).reverse -> TreeIs w e' o x v := by
 have hti := takes_is o;rcases right_cases (o, x) nv na hr with ⟨rfl, hv⟩ | ⟨rfl, h0, h1⟩ | ⟨rfl, h0, h1⟩ | ⟨n1, n2, n3, hx⟩
 ·obtain rfl : t = 0 := by have : takes 1 = 0 := by decide
                           omega
  exact ⟨.con x, rfl, fun w v ks _ _ => ⟨rfl, rfl⟩⟩
 ·obtain rfl : t = 0 := by have : takes 2 = 0 := by decide
                           omega
  obtain ⟨k, rfl⟩ := Int.eq_ofNat_of_zero_le h0;exact ⟨.var k, by unfold push; rw [if_pos (show takes (2, (k : Int)).1 = 0 from (by decide : takes 2 = 0)), if_neg (by show ¬ (2 : Int) = 1; decide), if_pos rfl]; simp, fun w v ks _ _ => ⟨rfl, rfl⟩⟩
 ·obtain rfl : t = 0 := by have : takes 3 = 0 := by decide
                           omega
  obtain ⟨k, rfl⟩ := Int.eq_ofNat_of_zero_le h0;exact ⟨.arg k, by unfold push; rw [if_pos (show takes (3, (k : Int)).1 = 0 from (by decide : takes 3 = 0)), if_neg (by show ¬ (3 : Int) = 1; decide), if_neg (by show ¬ (3 : Int) = 2; decide)]; simp, fun w v ks _ _ => ⟨rfl, rfl⟩⟩
 ·simp only at n1 n2 n3 hx
  subst hx;have htp : takes (o, (0 : Int)).1 = (t : Int) := ht;rcases hti with ⟨h1, _⟩ | ⟨h1, h2⟩ | ⟨h1, h2⟩ | ⟨h1, h2⟩ | ⟨_, h2⟩
  ·omega
  ·obtain rfl : t = 1 := by omega
   match st, hl with
   | a :: r, _ =>
    refine ⟨.un o a, ?_, fun w v ks hs hk => (tree_node o 0 hs hk).1 a rfl rfl⟩;unfold push;rw [if_neg (by omega), if_pos (by omega)];rfl
   | [], hl => simp at hl
  ·obtain rfl : t = 2 := by omega
   match st, hl with
   | b :: a :: r, _ =>
    refine ⟨.bin o a b, ?_, fun w v ks hs hk => (tree_node o 0 hs hk).2.1 a b rfl rfl⟩;unfold push;rw [if_neg (by omega), if_neg (by omega), if_pos (by omega)];rfl
   | [_], hl => simp at hl
   | [], hl => simp at hl
  ·obtain rfl : t = 3 := by omega
   match st, hl with
   | c :: b :: a :: r, _ =>
    refine ⟨.ite a b c, ?_, fun w v ks hs hk => (tree_node o 0 hs hk).2.2 a b c rfl h1 rfl⟩;unfold push;rw [if_neg (by omega), if_neg (by omega), if_neg (by omega)];rfl
   | [_, _], hl => simp at hl
   | [_], hl => simp at hl
   | [], hl => simp at hl
  ·omega
theorem stk_push {w9 : World} {base : Nat} {v9 : Value} {M : Nat} {ts : List Rt} {st' : List Ex} {e' : Ex} {es : List Ex} {o x : Int} {s : Value} (hst : st'.reverse = es ++ [e']) (hM : ts.length = M)
 (ho : w9.ownsRow base 128 3 v9 (M + 1) (cells3 ts ++ [.int .i64 o, .int .i64 x, s])) (htr : Trees w9 ts es) (hn : TreeIs w9 e' o x s) (h1 : ∃ a n c, s = Value.slice a n c) : Stk w9 v9 st' := by
 have hc : cells3 ts ++ [.int .i64 o, .int .i64 x, s] = cells3 (ts ++ [(o, x, s)]) := by rw [cells3_append]; rfl
 rw [hc] at ho;obtain ⟨a, cap, rfl, hcap⟩ := own_shape ho;have hl : st'.length = M + 1 := by rw [<- List.length_reverse, hst, List.length_append, <- htr.1, hM]; rfl
 exact ⟨a, cap, ts ++ [(o, x, s)], by rw [hl], by omega, SlT.owns ho, by rw [hst]; exact htr.snoc hn h1⟩
theorem news_some {w : World} {p : Addr} {news : List Value} (h : ∀ j u, news[j]? = some u -> w.cell? (p.add j) = some u) : ∀ ad, some p = some ad -> ∀ j u, news[j]? = some u -> w.cell? (ad.add j) = some u := by
 intro ad e;cases e
 exact h
theorem some_none {p : Addr} {m : Nat} : some p = none -> m = 0 := fun h => nomatch h
theorem three_cell (o x : Int) (s : Value) (h : s.oneCell' = true) : ∀ u ∈ [Value.int .i64 o, .int .i64 x, s], u.oneCell' = true := by
 intro u hu;simp only [List.mem_cons, List.not_mem_nil, or_false] at hu;rcases hu with rfl | rfl | rfl
 ·rfl
 ·rfl
 ·exact h
set_option maxHeartbeats 4000000 in
theorem refTree_any (code : List In) (v : Value) (w : World) (nv na : Int) (e : Ex) (hs : SlI w v code) (hw : WF nv na e) (hcode : codeOf e = code) (hl : code.length <= 31) (hc : crun nv na code 0 = .ok 1) :
 Calls Tryz.prog 80 #[v] w fun f w' => (∃ s, f = .returned (.agg #[.int .i64 (opOf e), .int .i64 (nOf e), s]) /\ TreeIs w' e (opOf e) (nOf e) s) /\ Below w.heap.size w w' := by
 obtain ⟨i0, hi, hz0, hz1, hz2⟩ := info_parts Tryz.infoTree;have HS := Lib.hid hs;obtain ⟨a, cap, rfl, -⟩ := hs;have HL := Lib.hid hl;have hall : code.foldl push [] = [e] := by rw [<- hcode]; exact push_code nv na e hw []
 have HALL := Lib.hid hall;have HC0 := Lib.hid hc;obtain ⟨n, hN⟩ : ∃ n, code.length = n := ⟨_, rfl⟩;rw [hN] at HL HS hl ⊢;have HN := Lib.hid hN;clear hN hall hc hcode;go_enter Tryz.func80, Tryz.ntmps80;go_wp2_with fail;go_loopw [3, 4, 5, 6] (fun l k _ _ wr => ∃ (K : Nat) (st : List Ex), k = .int .i64 (K : Int) /\ K <= n /\ Hid (Stk wr l st) /\ Hid (st = (code.take K).foldl push []) /\ Hid (crun nv na (code.drop K) (st.length : Nat) = .ok 1) /\ Hid (st.length <= K) /\ Hid (Below w.heap.size w wr) /\ Hid (wr.heap[w.heap.size]? = some (.cells #[.int .i64 0, .int .i64 0, .slice none 0 0] 128))) (fun _ k _ _ _ => n - (intOf k).toNat)
 case atStart =>
  exact ⟨0, [], rfl, Nat.zero_le _, ⟨none, 0, [], rfl, Nat.le_refl _, ⟨none, 0, rfl, fun j t h => by simp at h⟩, Trees.nil _⟩, rfl, HC0.out, Nat.le_refl 0, (Below.refl _ _).alloc (Nat.le_refl _) _, heap_alloc_at _ _⟩
 case round =>
  obtain ⟨K, st, rfl, hK, HST, HEQ, HCR, HSL, HBE, HBOX⟩ := hrel;by_cases hlt : K < n
  ·obtain ⟨i, hi'⟩ : ∃ i, code[K]? = some i := ⟨_, List.getElem?_eq_getElem (by rw [HN.out]; exact hlt)⟩
   obtain ⟨b, off, rfl, h1, h2⟩ := (HS.out.below HBE.out).at hi';have HNX := Lib.hid (show (code.take (K + 1)).foldl push [] = push st i by rw [List.take_add_one, hi', Option.toList_some, List.foldl_append, <- HEQ.out]; rfl);have hat := crun_at nv na code K i hi' _ _ HCR.out;obtain ⟨t, ht⟩ := Int.eq_ofNat_of_zero_le hat.1;have htl : t <= st.length := by have := hat.2.2.1; omega
   have ht3 : t <= 3 := by have := takes_range i.1; omega
   have hL31 : st.length <= 30 := by have h1 := HSL.out; have h2 := HL.out; omega
   have HTK := Lib.hid (fun W => (show Calls Tryz.prog 124 #[.int .i64 i.1] W fun e w' => e = .returned (.int .i64 (t : Int)) /\ Below W.heap.size W w' by rw [<- ht]; exact refTakes_any i.1 W));obtain ⟨la, lcap, ts, rfl, hcap, hslt, htr⟩ := HST.out;have htsl : ts.length = st.length := by rw [htr.1, List.length_reverse]
   obtain ⟨M, hM⟩ : ∃ M, st.length - t = M := ⟨_, rfl⟩;have hMI : (st.length : Int) - (t : Int) = (M : Int) := by omega
   have hML : M <= st.length := by omega
   have htM : st.length - M = t := by omega
   have hcut := fun W => cutT_tail W la st.length M lcap hML
   have hcut2 := fun W => cut_front W la st.length M lcap (Nat.le_trans hML hcap)
   have hltI : (K : Int) < (n : Int) := by omega
   obtain ⟨hwM, hwM2, hwK⟩ := tree_nums M K n (Nat.le_trans hML hL31) HL.out hlt;obtain ⟨A2, hA2⟩ : ∃ A2, (if lcap = M then la else la.map (·.add (M * 3))) = A2 := ⟨_, rfl⟩;rw [hA2, htM] at hcut;obtain ⟨o, x⟩ := i;have HSLT := Lib.hid hslt;have HTR := Lib.hid htr;have HTSL := Lib.hid htsl;have HA2 := Lib.hid hA2;have HM := Lib.hid hM;have HTL := Lib.hid htl;have HT := Lib.hid ht;have HAT := Lib.hid hat;have HCAP := Lib.hid hcap;clear hi' hat ht hslt htr htsl hA2 hM htl hcap HST;go_wp2_with fail;refine (HTK.out _).mono ?_;rintro _ w2 ⟨rfl, hb2⟩;have HB2 := Lib.hid (HBE.out.trans (hb2.mono HBE.out.size));have HBOX2 := Lib.hid ((hb2.block _ (Array.getElem?_eq_some_iff.1 HBOX.out).1).trans HBOX.out);have c1 := cell_kept hb2 h1;have c2 := cell_kept hb2 h2;have HSLT2 := Lib.hid (HSLT.out.below hb2);have HTR2 := Lib.hid (HTR.out.below hb2);clear hb2 h1 h2 HTK;go_upto_region 6 with fail
   have hks2 : SlT w2 (.slice A2 t (lcap - M)) (ts.drop M) := by
    have h := SlT.drop (a := la) (cap := lcap) (by rw [HTSL.out]; exact HSLT2.out) M (by rw [HTSL.out]; have := HM.out; omega) (lcap - M) A2 (fun hlt' b off hb => by rw [<- HA2.out, if_neg (by have h1 := HCAP.out; have h2 := HTSL.out; omega), hb]; simp [Addr.add]);rw [HTSL.out, show st.length - M = t by have h1 := HM.out; have h2 := HTL.out; omega] at h;exact h
   have htk2 := HTR2.out.drop M;have HKS2 := Lib.hid hks2;have HTK2 := Lib.hid htk2;have HLN := Lib.hid (show (cells3 (ts.drop M)).length = t * 3 by rw [cells3_length, List.length_drop, HTSL.out]; have h1 := HM.out; have h2 := HTL.out; omega);have HNO := Lib.hid (show A2 = none -> t = 0 from fun ha => by have h1 := hks2.news.1 ha; have h2 := HLN.out; rw [h1] at h2; simp [cells3] at h2; omega);have HONE := Lib.hid (cells3_one htk2);have HR2 := Lib.hid HB2.out.size;have HBA := Lib.hid (show Below w2.heap.size w2 (w2.drew.alloc (.cells #[] 128)) from (Below.refl w2.heap.size w2).drew.alloc (Nat.le_refl _) _);have HBB := Lib.hid (show Below w2.heap.size w2 ((w2.alloc (.cells #[] 128)).alloc (.cells #[.int .i64 0, .int .i64 0, .slice none 0 0] 128)).drew from (((Below.refl w2.heap.size w2).alloc (Nat.le_refl _) _).alloc (by simp) _).drew);have HBC := Lib.hid (show Below w2.heap.size w2 ((w2.alloc (.cells #[.int .i64 0, .int .i64 0, .slice none 0 0] 128)).alloc (.cells #[] 128)).drew from (((Below.refl w2.heap.size w2).alloc (Nat.le_refl _) _).alloc (by simp) _).drew);have HNWA := Lib.hid ((HKS2.out.below HBA.out).news.2);have HNWB := Lib.hid ((HKS2.out.below HBB.out).news.2);have HNWC := Lib.hid ((HKS2.out.below HBC.out).news.2);have HXB := Lib.hid (block_two w2 (.cells #[] 128) (.cells #[.int .i64 0, .int .i64 0, .slice none 0 0] 128));have HXC := Lib.hid (block_one w2 (.cells #[.int .i64 0, .int .i64 0, .slice none 0 0] 128) (.cells #[] 128));have HM1 := Lib.hid (show 0 + t <= maxLen /\ (0 + t) * 40 <= 140737488355328 from ⟨by have h1 := HTL.out; have h2 := HSL.out; have h3 := HL.out; unfold maxLen; omega, by have h1 := HTL.out; have h2 := HSL.out; have h3 := HL.out; omega⟩);have HSZA := Lib.hid (Nat.le_trans HB2.out.size HBA.out.size);have HSZB := Lib.hid (Nat.le_trans HB2.out.size HBB.out.size);have HSZC := Lib.hid (Nat.le_trans HB2.out.size HBC.out.size);have HC1 := Lib.hid c1;have HC2 := Lib.hid c2;clear hks2 htk2;have hblt : b < w2.heap.size := World.block_lt_of_cell? w2 _ c1;go_cut [6] from 7 to 42 (fun s6 W7 => NodeAt w2 o x t (ts.drop M) s6 W7)
   case first =>
    go_region_law (first | (refine step_append_all rfl _ _ 126 rfl w.heap.size 128 i0 (.agg #[.int .i64 0, .int .i64 0, .slice none 0 0]) 3 40 Tryz.underlying126 hi hz0 hz1 hz2 rfl (by decide) _ 0 [] rfl (own_empty w2.drew w.heap.size _ _ HR2.out) A2 t (lcap - M) (cells3 (ts.drop M)) rfl HLN.out HNO.out HNWA.out HONE.out HM1.out.1 HM1.out.2 HSZA.out ?_; intro v6 w6 hown6 hgrow6 hat6; rw [Nat.zero_add, List.nil_append] at hown6; obtain ⟨a6, c6, rfl, -⟩ := own_shape hown6; have hb6 := HBA.out.grown hgrow6 HBA.out.size (fun k hk => by cases hk; first | exact Nat.le_refl _ | exact Nat.le_succ _); have c1 := cell_kept hb6 HC1.out; have c2 := cell_kept hb6 HC2.out; have hblt6 := World.block_lt_of_cell? w6 _ c1; have HOWN6 := Lib.hid hown6; have HB6 := Lib.hid hb6; clear hown6 hgrow6 hb6 hat6) | (refine step_append_all rfl _ _ 126 rfl w.heap.size 128 i0 (.agg #[.int .i64 0, .int .i64 0, .slice none 0 0]) 3 40 Tryz.underlying126 hi hz0 hz1 hz2 rfl (by decide) _ 0 [] rfl (World.ownsRow.drew (World.ownsRow.alloc (own_empty w2 w.heap.size _ _ HR2.out) _)) A2 t (lcap - M) (cells3 (ts.drop M)) rfl HLN.out HNO.out HNWB.out HONE.out HM1.out.1 HM1.out.2 HSZB.out ?_; intro v6 w6 hown6 hgrow6 hat6; rw [Nat.zero_add, List.nil_append] at hown6; obtain ⟨hbx, hne⟩ := own_apart hgrow6 HXB.out (Nat.succ_ne_self _) (hat6.elim Or.inl (fun h => Or.inr (Or.inl h))); obtain ⟨a6, c6, rfl, -⟩ := own_shape hown6; obtain ⟨_, e0, f0⟩ := row_cell hbx (show 0 < 3 by decide); obtain ⟨_, e1, f1⟩ := row_cell hbx (show 1 < 3 by decide); obtain ⟨_, e2, f2⟩ := row_cell hbx (show 2 < 3 by decide); have HBX6 := Lib.hid hbx; have HNE6 := Lib.hid hne; clear hbx hne; have hb6 := HBB.out.grown hgrow6 HBB.out.size (fun k hk => by cases hk; first | exact Nat.le_refl _ | exact Nat.le_succ _); have c1 := cell_kept hb6 HC1.out; have c2 := cell_kept hb6 HC2.out; have hblt6 := World.block_lt_of_cell? w6 _ c1; have HOWN6 := Lib.hid hown6; have HB6 := Lib.hid hb6; clear hown6 hgrow6 hb6 hat6) | (refine step_append_all rfl _ _ 126 rfl w.heap.size 128 i0 (.agg #[.int .i64 0, .int .i64 0, .slice none 0 0]) 3 40 Tryz.underlying126 hi hz0 hz1 hz2 rfl (by decide) _ 0 [] rfl (own_empty1 w2 _ w.heap.size _ _ HR2.out) A2 t (lcap - M) (cells3 (ts.drop M)) rfl HLN.out HNO.out HNWC.out HONE.out HM1.out.1 HM1.out.2 HSZC.out ?_; intro v6 w6 hown6 hgrow6 hat6; rw [Nat.zero_add, List.nil_append] at hown6; obtain ⟨hbx, hne⟩ := own_apart hgrow6 HXC.out (Nat.succ_ne_self _).symm (hat6.elim Or.inl (fun h => Or.inr (Or.inl h))); obtain ⟨a6, c6, rfl, -⟩ := own_shape hown6; obtain ⟨_, e0, f0⟩ := row_cell hbx (show 0 < 3 by decide); obtain ⟨_, e1, f1⟩ := row_cell hbx (show 1 < 3 by decide); obtain ⟨_, e2, f2⟩ := row_cell hbx (show 2 < 3 by decide); have HBX6 := Lib.hid hbx; have HNE6 := Lib.hid hne; clear hbx hne; have hb6 := HBC.out.grown hgrow6 HBC.out.size (fun k hk => by cases hk; first | exact Nat.le_refl _ | exact Nat.le_succ _); have c1 := cell_kept hb6 HC1.out; have c2 := cell_kept hb6 HC2.out; have hblt6 := World.block_lt_of_cell? w6 _ c1; have HOWN6 := Lib.hid hown6; have HB6 := Lib.hid hb6; clear hown6 hgrow6 hb6 hat6))
    all_goals
     go_wp2_with fail;go_meet
     case rel => first | exact node_new HOWN6.out HB6.out | exact node_set HOWN6.out HB6.out HBX6.out rfl (by omega) HNE6.out
   case rest =>
    obtain ⟨wn, rfl⟩ : ∃ wn : World, wn = wc := ⟨_, rfl⟩;obtain ⟨B6, a6, c6, rfl, d0, d1, d2, hs6, hb6⟩ := hcut;go_upto_region 7 with fail
    obtain ⟨e', hpush, htree⟩ := push_tree nv na st o x t HT.out HAT.out.2.1 HTL.out;have HB6C := Lib.hid hb6;have hrev : st.reverse.drop M = (st.take t).reverse := by rw [List.drop_reverse]; have h1 := HM.out; have h2 := HTL.out; rw [show st.length - M = t by omega]
    have hrev2 : st.reverse.take M = (st.drop t).reverse := by rw [List.take_reverse]; have h1 := HM.out; have h2 := HTL.out; rw [show st.length - M = t by omega]
    have hnode : TreeIs wn e' o x (.slice a6 t c6) := htree wn _ _ hs6 (by have h := HTK2.out.below hb6; rw [hrev] at h; exact h);have htk : Trees wn (ts.take M) (st.drop t).reverse := by have h := (HTR2.out.below hb6).take M; rw [hrev2] at h; exact h
    have htkl : (ts.take M).length = M := by rw [List.length_take, HTSL.out]; have h1 := HM.out; omega
    have hslk : SlT wn (.slice la M lcap) (ts.take M) := by
     have h := SlT.take (a := la) (cap := lcap) (by rw [HTSL.out]; exact HSLT2.out.below hb6) M (by rw [HTSL.out]; have := HM.out; omega) lcap;exact h
    have HPUSH := Lib.hid hpush;have HNODE := Lib.hid hnode;have GTK := Lib.hid htk;have GTL := Lib.hid htkl;have D0 := Lib.hid d0;have D1 := Lib.hid d1;have D2 := Lib.hid d2;have hlt6 := World.block_lt_of_cell? wn _ d0;have HBOXN := Lib.hid ((hb6.block _ (Array.getElem?_eq_some_iff.1 HBOX2.out).1).trans HBOX2.out);have HBLT := Lib.hid (Array.getElem?_eq_some_iff.1 HBOXN.out).1;have GLN := Lib.hid (show (cells3 (ts.take M)).length = M * 3 by rw [cells3_length, htkl]);have GNO := Lib.hid (show la = none -> M = 0 from fun ha => by have h1 := hslk.news.1 ha; rw [h1] at htkl; simpa using htkl.symm);have GONE := Lib.hid (cells3_one htk);have GM1 := Lib.hid (show 0 + M <= maxLen /\ (0 + M) * 40 <= 140737488355328 from ⟨by have h0 := HM.out; have h2 := HSL.out; have h3 := HL.out; unfold maxLen; omega, by have h0 := HM.out; have h2 := HSL.out; have h3 := HL.out; omega⟩);have GM2 := Lib.hid (show M + 1 <= maxLen /\ (M + 1) * 40 <= 140737488355328 from ⟨by have h0 := HM.out; have h2 := HSL.out; have h3 := HL.out; unfold maxLen; omega, by have h0 := HM.out; have h2 := HSL.out; have h3 := HL.out; omega⟩);have GBA := Lib.hid (show Below wn.heap.size wn (wn.drew.alloc (.cells #[] 128)) from (Below.refl wn.heap.size wn).drew.alloc (Nat.le_refl _) _);have GBB := Lib.hid (show Below wn.heap.size wn ((wn.alloc (.cells #[] 128)).alloc (.cells #[.int .i64 o, .int .i64 x, .slice a6 t c6] 128)).drew from (((Below.refl wn.heap.size wn).alloc (Nat.le_refl _) _).alloc (by simp) _).drew);have GBC := Lib.hid (show Below wn.heap.size wn ((wn.alloc (.cells #[.int .i64 o, .int .i64 x, .slice a6 t c6] 128)).alloc (.cells #[] 128)).drew from (((Below.refl wn.heap.size wn).alloc (Nat.le_refl _) _).alloc (by simp) _).drew);have GNWA := Lib.hid ((hslk.below GBA.out).news.2);have GNWB := Lib.hid ((hslk.below GBB.out).news.2);have GNWC := Lib.hid ((hslk.below GBC.out).news.2);have GXB := Lib.hid (block_two wn (.cells #[] 128) (.cells #[.int .i64 o, .int .i64 x, .slice a6 t c6] 128));have GXC := Lib.hid (block_one wn (.cells #[.int .i64 o, .int .i64 x, .slice a6 t c6] 128) (.cells #[] 128));have GSZA := Lib.hid GBA.out.size;have GSZB := Lib.hid GBB.out.size;have GSZC := Lib.hid GBC.out.size;clear hpush htree hnode htk htkl hslk hrev hrev2 hs6 hb6;have hpl : (push st (o, x)).length = st.length - t + 1 := by rw [HPUSH.out, List.length_cons, List.length_drop]
    have GCR := Lib.hid (show crun nv na (code.drop (K + 1)) ((push st (o, x)).length : Nat) = .ok 1 by
     have h := HAT.out.2.2.2;have h1 := HT.out;have h2 := HTL.out;rw [<- h];refine congrArg _ ?_;show (((push st (o, x)).length : Nat) : Int) = (st.length : Int) - takes o + 1
     rw [hpl, h1]; omega)
    have GSL := Lib.hid (show (push st (o, x)).length <= K + 1 by rw [hpl]; have h1 := HSL.out; omega);clear hpl;go_region_law (first | (refine step_append_all rfl _ _ 126 rfl wn.heap.size 128 i0 (.agg #[.int .i64 0, .int .i64 0, .slice none 0 0]) 3 40 Tryz.underlying126 hi hz0 hz1 hz2 rfl (by decide) _ 0 [] rfl (own_empty wn.drew wn.heap.size _ _ (Nat.le_refl _)) la M lcap (cells3 (ts.take M)) rfl GLN.out GNO.out GNWA.out GONE.out GM1.out.1 GM1.out.2 GSZA.out ?_; intro v8 w8 hown8 hgrow8 hat8; rw [Nat.zero_add, List.nil_append] at hown8; have hb8 := GBA.out.grown hgrow8 GBA.out.size (fun k hk => by cases hk; first | exact Nat.le_refl _ | exact Nat.le_succ _); have d0 := cell_kept hb8 D0.out; have d1 := cell_kept hb8 D1.out; have d2 := cell_kept hb8 D2.out; have hlt8 := World.block_lt_of_cell? w8 _ d0; have OWN8 := Lib.hid hown8; have OBK8 := Lib.hid (owns_block hown8); have GB8 := Lib.hid hb8; clear hown8 hgrow8 hb8 hat8) | (refine step_append_all rfl _ _ 126 rfl wn.heap.size 128 i0 (.agg #[.int .i64 0, .int .i64 0, .slice none 0 0]) 3 40 Tryz.underlying126 hi hz0 hz1 hz2 rfl (by decide) _ 0 [] rfl (World.ownsRow.drew (World.ownsRow.alloc (own_empty wn wn.heap.size _ _ (Nat.le_refl _)) _)) la M lcap (cells3 (ts.take M)) rfl GLN.out GNO.out GNWB.out GONE.out GM1.out.1 GM1.out.2 GSZB.out ?_; intro v8 w8 hown8 hgrow8 hat8; rw [Nat.zero_add, List.nil_append] at hown8; obtain ⟨hbx, hne⟩ := own_apart hgrow8 GXB.out (Nat.succ_ne_self _) (hat8.elim Or.inl (fun h => Or.inr (Or.inl h))); have GBX8 := Lib.hid hbx; clear hbx hne; have hb8 := GBB.out.grown hgrow8 GBB.out.size (fun k hk => by cases hk; first | exact Nat.le_refl _ | exact Nat.le_succ _); have d0 := cell_kept hb8 D0.out; have d1 := cell_kept hb8 D1.out; have d2 := cell_kept hb8 D2.out; have hlt8 := World.block_lt_of_cell? w8 _ d0; have OWN8 := Lib.hid hown8; have OBK8 := Lib.hid (owns_block hown8); have GB8 := Lib.hid hb8; clear hown8 hgrow8 hb8 hat8) | (refine step_append_all rfl _ _ 126 rfl wn.heap.size 128 i0 (.agg #[.int .i64 0, .int .i64 0, .slice none 0 0]) 3 40 Tryz.underlying126 hi hz0 hz1 hz2 rfl (by decide) _ 0 [] rfl (own_empty1 wn _ wn.heap.size _ _ (Nat.le_refl _)) la M lcap (cells3 (ts.take M)) rfl GLN.out GNO.out GNWC.out GONE.out GM1.out.1 GM1.out.2 GSZC.out ?_; intro v8 w8 hown8 hgrow8 hat8; rw [Nat.zero_add, List.nil_append] at hown8; obtain ⟨hbx, hne⟩ := own_apart hgrow8 GXC.out ((Nat.succ_ne_self _).symm) (hat8.elim Or.inl (fun h => Or.inr (Or.inl h))); have GBX8 := Lib.hid hbx; clear hbx hne; have hb8 := GBC.out.grown hgrow8 GBC.out.size (fun k hk => by cases hk; first | exact Nat.le_refl _ | exact Nat.le_succ _); have d0 := cell_kept hb8 D0.out; have d1 := cell_kept hb8 D1.out; have d2 := cell_kept hb8 D2.out; have hlt8 := World.block_lt_of_cell? w8 _ d0; have OWN8 := Lib.hid hown8; have OBK8 := Lib.hid (owns_block hown8); have GB8 := Lib.hid hb8; clear hown8 hgrow8 hb8 hat8) | (refine step_append_all rfl _ _ 126 rfl wn.heap.size 128 i0 (.agg #[.int .i64 0, .int .i64 0, .slice none 0 0]) 3 40 Tryz.underlying126 hi hz0 hz1 hz2 rfl (by decide) v8 M (cells3 (ts.take M)) rfl OWN8.out (some _) 1 1 [.int .i64 o, .int .i64 x, .slice a6 t c6] rfl rfl some_none (news_some (World.news_of_block (cs := #[.int .i64 o, .int .i64 x, .slice a6 t c6]) GBX8.out)) (three_cell _ _ _ rfl) GM2.out.1 GM2.out.2 GB8.out.size ?_; intro v9 w9 hown9 hgrow9 hat9; have hb9 := GB8.out.grown hgrow9 GB8.out.size OBK8.out; have OWN9 := Lib.hid hown9; have GB9 := Lib.hid hb9; clear hown9 hgrow9 hb9 hat9) | (refine step_append_all rfl _ _ 126 rfl wn.heap.size 128 i0 (.agg #[.int .i64 0, .int .i64 0, .slice none 0 0]) 3 40 Tryz.underlying126 hi hz0 hz1 hz2 rfl (by decide) v8 M (cells3 (ts.take M)) rfl (World.ownsRow.alloc OWN8.out _) (some _) 1 1 [.int .i64 o, .int .i64 x, .slice a6 t c6] rfl rfl some_none (news_some (World.news_of_block (cs := #[.int .i64 o, .int .i64 x, .slice a6 t c6]) (heap_alloc_at _ _))) (three_cell _ _ _ rfl) GM2.out.1 GM2.out.2 (GB8.out.alloc GB8.out.size (.cells #[.int .i64 o, .int .i64 x, .slice a6 t c6] 128)).size ?_; intro v9 w9 hown9 hgrow9 hat9; have hb9 := (GB8.out.alloc GB8.out.size (.cells #[.int .i64 o, .int .i64 x, .slice a6 t c6] 128)).grown hgrow9 (GB8.out.alloc GB8.out.size (.cells #[.int .i64 o, .int .i64 x, .slice a6 t c6] 128)).size OBK8.out; have OWN9 := Lib.hid hown9; have GB9 := Lib.hid hb9; clear hown9 hgrow9 hb9 hat9))
    all_goals
     have GST := Lib.hid (stk_push (es := (st.drop t).reverse) (e' := e') (st' := push st (o, x)) (by rw [HPUSH.out, List.reverse_cons]) GTL.out OWN9.out (GTK.out.below GB9.out) (HNODE.out.below GB9.out e') ⟨_, _, _, rfl⟩);have GBE := Lib.hid (HB2.out.trans ((HB6C.out.trans (GB9.out.mono HB6C.out.size)).mono HB2.out.size));have GBOX := Lib.hid ((GB9.out.block _ HBLT.out).trans HBOXN.out);go_wp2_with fail;go_roundw
     case rel => exact ⟨K + 1, push st (o, x), by go_num, by omega, GST.out, HNX.out.symm, GCR.out, GSL.out, GBE.out, GBOX.out⟩
     case measure => simp [intOf]; omega
  ·have hend : st = [e] := by rw [HEQ.out, List.take_of_length_le (by rw [HN.out]; omega)]; exact HALL.out
   subst hend;obtain ⟨la, lcap, ts, rfl, hcap, hslt, htr⟩ := HST.out;obtain ⟨tt, rfl⟩ : ∃ tt, ts = [tt] := by
    match ts, htr.1 with
    | [tt], _ => exact ⟨tt, rfl⟩
   obtain ⟨a', cap', e1, hc⟩ := hslt;obtain ⟨b, off, rfl, d0, d1, d2⟩ := hc 0 tt rfl;cases e1
   have htree := htr.2.1 0 tt e rfl rfl;obtain ⟨sa, sn, sc, hsl⟩ := htr.2.2 tt (by simp);obtain ⟨r1, r2⟩ := htree.root;obtain ⟨o1, x1, s1⟩ := tt;simp only at r1 r2 d0 d1 d2 htree hsl;subst r1 r2 hsl;simp only [Nat.zero_mul, Nat.add_zero] at d0 d1 d2;have HTREE := Lib.hid htree;obtain ⟨_, e0, f0⟩ := row_cell HBOX.out (show 0 < 3 by decide);obtain ⟨_, e1, f1⟩ := row_cell HBOX.out (show 1 < 3 by decide);obtain ⟨_, e2, f2⟩ := row_cell HBOX.out (show 2 < 3 by decide);have hltI : ¬ (K : Int) < (n : Int) := by omega
   clear hc htr htree;go_wp2_with fail;obtain ⟨hbx, hgx, hbe⟩ := box_set (o := opOf e) (x := nOf e) (s := .slice sa sn sc) HBOX.out HBE.out (Nat.le_refl _);have htx := tree_apart nv na HBOX.out hgx e hw _ _ _ HTREE.out;generalize ((wr.setCell ⟨w.heap.size, 0, none⟩ (.int .i64 (opOf e))).setCell ⟨w.heap.size, 1, none⟩ (.int .i64 (nOf e))).setCell ⟨w.heap.size, 2, none⟩ (.slice sa sn sc) = wz at *
   have g0 : wz.cell? ⟨w.heap.size, 0, none⟩ = some (.int .i64 (opOf e)) := by rw [cell_of_row _ _ _ _ 128 (0, 0) hbx]; rfl
   have g1 : wz.cell? ⟨w.heap.size, 1, none⟩ = some (.int .i64 (nOf e)) := by rw [cell_of_row _ _ _ _ 128 (0, 0) hbx]; rfl
   have g2 : wz.cell? ⟨w.heap.size, 2, none⟩ = some (.slice sa sn sc) := by rw [cell_of_row _ _ _ _ 128 (0, 0) hbx]; rfl
   exact bodyPost_ret (v := .agg #[.int .i64 (opOf e), .int .i64 (nOf e), .slice sa sn sc]) (by simp [results, Tryz.results80, go_sem, g0, g1, g2]) rfl ⟨⟨_, rfl, htx⟩, hbe⟩
end Go.Proofs.YtjcajeehgjpmmaaGreatDoor.I
