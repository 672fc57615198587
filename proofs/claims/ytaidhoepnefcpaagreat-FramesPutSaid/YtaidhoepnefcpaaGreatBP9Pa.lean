/-
  Layer 9, the program: Check, firstError.
-/
import Derived.Test.YtaidhoepnefcpaaGreatBP10PmV
import Derived.Test.YtaidhoepnefcpaaGreatBP11Arg
import Derived.Laws.AppendOwnNone
namespace Go.Proofs.YtaidhoepnefcpaaGreat.C10
open Go Go.RowKit Go.Proofs B K P8
set_option linter.unusedVariables false
set_option maxRecDepth 100000
set_option maxHeartbeats 1000000 in
theorem mayLit_E (l : List Ev) (HM : ∀ (W : World) (v : Value) (x : Ev), x ∈ l -> (∃ u, v = .agg #[.int .i64 x.pos, u] /\ SlN W u x.vars) -> Calls Tryz.prog 211 #[v] W fun e w' => e = .returned (.bool (evP x)) /\ Below W.heap.size W w') (A : Nat) (v : Value) (x : Ev) (W : World) (hx : x ∈ l) (hv : ∃ u, v = .agg #[.int .i64 x.pos, u] /\ SlN W u x.vars) (hA : W.cell? ⟨A, 0, none⟩ = some (.func (.func 211) #[] #[])) :
 Calls Tryz.prog 231 #[v, .pointer (some ⟨A, 0, none⟩)] W fun e w' => e = .returned (.bool (!evP x)) /\ Below W.heap.size W w' := by
 obtain ⟨u, rfl, hu⟩ := hv;obtain ⟨au, cu, rfl, -⟩ := id hu.open;obtain ⟨W0, hW0⟩ : ∃ W0, W.alloc (.cells #[.int .i64 x.pos, .slice au x.vars.length cu] 120) = W0 := ⟨_, rfl⟩;have hB0 : Below W.heap.size W W0 := by rw [<- hW0]; exact zf _ _
 have k0 : W0.cell? ⟨W.heap.size, 0, none⟩ = some (.int .i64 x.pos) := by rw [<- hW0]; exact ze W [_, _] _ 0 _ rfl
 have k1 : W0.cell? ⟨W.heap.size, 1, none⟩ = some (.slice au x.vars.length cu) := by rw [<- hW0]; exact ze W [_, _] _ 1 _ rfl
 have kA := za hB0 hA;have HC := Lib.hid (HM W0 _ x hx ⟨_, rfl, hu.below hB0⟩);obtain ⟨p, hp⟩ : ∃ p, evP x = p := ⟨_, rfl⟩;rw [hp] at HC ⊢;have HB0 := Lib.hid hB0;clear HM hp hx hA hB0;go_enter Tryz.func231, Tryz.ntmps231;go_wp2_with (go_at_call 211; refine HC.out.mono ?_; rintro _ w1 ⟨rfl, hb1⟩; have HB1 := Lib.hid hb1; clear hb1)
 go_ret;exact ⟨rfl, HB0.out.trans (HB1.out.mono HB0.out.size)⟩
set_option maxHeartbeats 2000000 in
theorem idx_E (l : List Ev) (HM : ∀ (W : World) (v : Value) (x : Ev), x ∈ l -> (∃ u, v = .agg #[.int .i64 x.pos, u] /\ SlN W u x.vars) -> Calls Tryz.prog 211 #[v] W fun e w' => e = .returned (.bool (evP x)) /\ Below W.heap.size W w') (A : Nat) (v : Value) (w : World) (h : EvsIs w v l) (hn : l.length <= 4611686018427387904) (hA : w.cell? ⟨A, 0, none⟩ = some (.func (.func 211) #[] #[])) :
 Calls Tryz.prog 237 #[v, .func (.func 231) #[] #[.pointer (some ⟨A, 0, none⟩)]] w fun e w' => e = .returned (.int .i64 (idxG (fun x => !evP x) l 0)) /\ Below w.heap.size w w' := by
 obtain ⟨a, cap, rfl, hc⟩ := h.open;obtain ⟨N, hN⟩ : ∃ N, l.length = N := ⟨_, rfl⟩;have HC := Lib.hid hc;have HN := Lib.hid hN;have HP := Lib.hid (mayLit_E l HM A);rw [hN] at hn ⊢;clear hc h hN HM;go_enter Tryz.func237, Tryz.ntmps237;go_wp2_with fail;go_loopw [8] (fun i wr => ∃ K : Nat, i = .int .i64 (K : Int) /\ K <= N /\ Hid (idxG (fun x => !evP x) l 0 = idxG (fun x => !evP x) (l.drop K) K /\ Below w.heap.size w wr)) (fun i _ => N - (intOf i).toNat)
 case atStart => exact ⟨0, rfl, Nat.zero_le _, Lib.hid ⟨rfl, Below.refl _ _⟩⟩
 case round =>
  obtain ⟨K, rfl, hK, HJ⟩ := hrel;by_cases hlt : K < N
  ·have hltI : (K : Int) < (N : Int) := by omega
   have hk0 : 0 <= (K : Int) := by omega
   have hw1 : IntKind.i64.wrap ((K : Int) + 1) = (K : Int) + 1 := IntWalk.i64_in _ (by omega);obtain ⟨x, hx⟩ : ∃ x, l[K]? = some x := ⟨_, List.getElem?_eq_getElem (by rw [HN.out]; exact hlt)⟩;obtain ⟨b, off, ea, cs, -, ⟨u, rfl, hu⟩, hcell⟩ := HC.out K x hx;subst ea;obtain ⟨au, cu, rfl, -⟩ := id hu.open;have k0 : wr.cell? ⟨b, off + K * 2, none⟩ = some (.int .i64 x.pos) := za HJ.out.2 (hcell 0 _ rfl);have k1 : wr.cell? ⟨b, off + K * 2 + 1, none⟩ = some (.slice au x.vars.length cu) := za HJ.out.2 (hcell 1 _ rfl);clear hcell;have hd := HJ.out.1.trans (qd (p := fun x => !evP x) hx);have HV := Lib.hid (HP.out (.agg #[.int .i64 x.pos, .slice au x.vars.length cu]) x wr (List.mem_of_getElem? hx) ⟨_, rfl, hu.below HJ.out.2⟩ (za HJ.out.2 hA));obtain ⟨c, hcv⟩ : ∃ c, (!evP x) = c := ⟨_, rfl⟩;rw [hcv] at HV hd;have HD := Lib.hid hd;clear hd hx hcv hu;cases c with
   | true =>
    go_wp2_with (go_at_call 231; refine HV.out.mono ?_; rintro _ w1 ⟨rfl, hb1⟩; have HB1 := Lib.hid hb1; clear hb1)
    go_ret;exact ⟨by rw [HD.out]; rfl, HJ.out.2.trans (HB1.out.mono HJ.out.2.size)⟩
   | false =>
    go_wp2_with (go_at_call 231; refine HV.out.mono ?_; rintro _ w1 ⟨rfl, hb1⟩; have HB1 := Lib.hid hb1; clear hb1)
    go_roundw
    case rel => exact ⟨K + 1, by go_num, by omega, Lib.hid ⟨by rw [HD.out]; rfl, HJ.out.2.trans (HB1.out.mono HJ.out.2.size)⟩⟩
    case measure => simp [intOf]; omega
  ·have hltI : ¬ (K : Int) < (N : Int) := by omega
   have hd := HJ.out.1;rw [List.drop_of_length_le (i := K) (by rw [HN.out]; omega)] at hd;have HD := Lib.hid hd;clear hd;go_wp2_with fail;go_ret;exact ⟨by rw [HD.out]; rfl, HJ.out.2⟩
set_option maxHeartbeats 1000000 in
theorem has_E (l : List Ev) (HM : ∀ (W : World) (v : Value) (x : Ev), x ∈ l -> (∃ u, v = .agg #[.int .i64 x.pos, u] /\ SlN W u x.vars) -> Calls Tryz.prog 211 #[v] W fun e w' => e = .returned (.bool (evP x)) /\ Below W.heap.size W w') (A : Nat) (v : Value) (w : World) (h : EvsIs w v l) (hn : l.length <= 4611686018427387904) (hA : w.cell? ⟨A, 0, none⟩ = some (.func (.func 211) #[] #[])) :
 Calls Tryz.prog 230 #[v, .func (.func 231) #[] #[.pointer (some ⟨A, 0, none⟩)]] w fun e w' => e = .returned (.bool (l.any fun x => !evP x)) /\ Below w.heap.size w w' := by
 have HI := idx_E l HM A v w h hn hA;have ha := yZ (fun x => !evP x) l 0;obtain ⟨i, hi⟩ : ∃ i, idxG (fun x => !evP x) l 0 = i := ⟨_, rfl⟩;rw [hi] at HI ha;rw [<- ha];clear ha hi HM;obtain ⟨a, cap, rfl, -⟩ := h.open;go_enter Tryz.func230, Tryz.ntmps230;go_wp2_with fail;refine HI.mono ?_;rintro _ w1 ⟨rfl, hb⟩;go_wp2_with fail;go_ret;exact ⟨rfl, hb⟩
set_option maxHeartbeats 1000000 in
theorem mayList_E (l : List Ev) (HM : ∀ (W : World) (v : Value) (x : Ev), x ∈ l -> (∃ u, v = .agg #[.int .i64 x.pos, u] /\ SlN W u x.vars) -> Calls Tryz.prog 211 #[v] W fun e w' => e = .returned (.bool (evP x)) /\ Below W.heap.size W w') (most : Nat) (m : Int) (em : m = (most : Int)) (v : Value) (w : World) (h : EvsIs w v l) (hn : l.length <= 4611686018427387904) :
 Calls Tryz.prog 210 #[v, .int .i64 m, .func (.func 211) #[] #[]] w fun e w' => e = .returned (.bool (l.all evP && decide (l.length <= most))) /\ Below w.heap.size w w' := by
 have hmf : ∀ (fn : Fn) (first cap : Array Value) (w : World), (Instr.makeFunc fn first cap).run Tryz.prog w = .ok (.func fn first cap) w := fun _ _ _ _ => rfl
 subst em;obtain ⟨W0, hW0⟩ : ∃ W0, w.alloc (.cells #[.func (.func 211) #[] #[]] 225) = W0 := ⟨_, rfl⟩;have hB0 : Below w.heap.size w W0 := by rw [<- hW0]; exact zf _ _
 have kA : W0.cell? ⟨w.heap.size, 0, none⟩ = some (.func (.func 211) #[] #[]) := by rw [<- hW0]; exact ze w [_] _ 0 _ rfl
 have HI := Lib.hid (has_E l HM w.heap.size v W0 (h.below hB0) hn kA);have hall : (l.all evP && decide (l.length <= most)) = (decide (l.length <= most) && !(l.any fun x => !evP x)) := by
  rw [Bool.and_comm];congr 1
  rw [List.not_any_eq_all_not];simp
 rw [hall];obtain ⟨a, cap, rfl, -⟩ := id h.open;obtain ⟨N, hN⟩ : ∃ N, l.length = N := ⟨_, rfl⟩;obtain ⟨c, hcv⟩ : ∃ c, (l.any fun x => !evP x) = c := ⟨_, rfl⟩;rw [hcv] at HI;rw [hN] at HI hn ⊢;rw [hcv];have HB0 := Lib.hid hB0;clear hcv hN HM h hall hB0 kA;by_cases hlt : N <= most
 ·have hltI : (N : Int) <= (most : Int) := by omega
  have d1 : decide ((N : Int) <= (most : Int)) = true := decide_eq_true hltI;rw [decide_eq_true hlt];go_enter Tryz.func210, Tryz.ntmps210;go_wp2_with fail;refine HI.out.mono ?_;rintro _ w1 ⟨rfl, hb1⟩;have HB1 := Lib.hid hb1;clear hb1;go_wp2_with fail;go_ret;exact ⟨by cases c <;> rfl, HB0.out.trans (HB1.out.mono HB0.out.size)⟩
 ·have hltI : ¬ (N : Int) <= (most : Int) := by omega
  have d1 : decide ((N : Int) <= (most : Int)) = false := decide_eq_false hltI;rw [decide_eq_false hlt];go_enter Tryz.func210, Tryz.ntmps210;go_wp2_with fail;go_ret;exact ⟨rfl, HB0.out⟩
set_option maxHeartbeats 1000000 in
theorem mayLit_T (l : List It) (HM : ∀ (W : World) (v : Value) (x : It), x ∈ l -> (∃ u, v = .agg #[.string (str x.stream), .int .i64 x.st.pos, .int .i64 x.st.ver, u] /\ SlN W u x.st.vars) -> Calls Tryz.prog 174 #[v] W fun e w' => e = .returned (.bool (itOk x)) /\ Below W.heap.size W w') (A : Nat) (v : Value) (x : It) (W : World) (hx : x ∈ l) (hv : ∃ u, v = .agg #[.string (str x.stream), .int .i64 x.st.pos, .int .i64 x.st.ver, u] /\ SlN W u x.st.vars) (hA : W.cell? ⟨A, 0, none⟩ = some (.func (.func 174) #[] #[])) :
 Calls Tryz.prog 218 #[v, .pointer (some ⟨A, 0, none⟩)] W fun e w' => e = .returned (.bool (!itOk x)) /\ Below W.heap.size W w' := by
 obtain ⟨u, rfl, hu⟩ := hv;obtain ⟨au, cu, rfl, -⟩ := id hu.open;obtain ⟨W0, hW0⟩ : ∃ W0, W.alloc (.cells #[.string (str x.stream), .int .i64 x.st.pos, .int .i64 x.st.ver, .slice au x.st.vars.length cu] 91) = W0 := ⟨_, rfl⟩;have hB0 : Below W.heap.size W W0 := by rw [<- hW0]; exact zf _ _
 have k0 : W0.cell? ⟨W.heap.size, 0, none⟩ = some (.string (str x.stream)) := by rw [<- hW0]; exact ze W [_, _, _, _] _ 0 _ rfl
 have k1 : W0.cell? ⟨W.heap.size, 1, none⟩ = some (.int .i64 x.st.pos) := by rw [<- hW0]; exact ze W [_, _, _, _] _ 1 _ rfl
 have k2 : W0.cell? ⟨W.heap.size, 2, none⟩ = some (.int .i64 x.st.ver) := by rw [<- hW0]; exact ze W [_, _, _, _] _ 2 _ rfl
 have k3 : W0.cell? ⟨W.heap.size, 3, none⟩ = some (.slice au x.st.vars.length cu) := by rw [<- hW0]; exact ze W [_, _, _, _] _ 3 _ rfl
 have kA := za hB0 hA;have HC := Lib.hid (HM W0 _ x hx ⟨_, rfl, hu.below hB0⟩);obtain ⟨p, hp⟩ : ∃ p, itOk x = p := ⟨_, rfl⟩;rw [hp] at HC ⊢;have HB0 := Lib.hid hB0;clear HM hp hx hA hB0;go_enter Tryz.func218, Tryz.ntmps218;go_wp2_with (go_at_call 174; refine HC.out.mono ?_; rintro _ w1 ⟨rfl, hb1⟩; have HB1 := Lib.hid hb1; clear hb1)
 go_ret;exact ⟨rfl, HB0.out.trans (HB1.out.mono HB0.out.size)⟩
set_option maxHeartbeats 2000000 in
theorem idx_T (l : List It) (HM : ∀ (W : World) (v : Value) (x : It), x ∈ l -> (∃ u, v = .agg #[.string (str x.stream), .int .i64 x.st.pos, .int .i64 x.st.ver, u] /\ SlN W u x.st.vars) -> Calls Tryz.prog 174 #[v] W fun e w' => e = .returned (.bool (itOk x)) /\ Below W.heap.size W w') (A : Nat) (v : Value) (w : World) (h : ItsIs w v l) (hn : l.length <= 4611686018427387904) (hA : w.cell? ⟨A, 0, none⟩ = some (.func (.func 174) #[] #[])) :
 Calls Tryz.prog 234 #[v, .func (.func 218) #[] #[.pointer (some ⟨A, 0, none⟩)]] w fun e w' => e = .returned (.int .i64 (idxG (fun x => !itOk x) l 0)) /\ Below w.heap.size w w' := by
 obtain ⟨a, cap, rfl, hc⟩ := h.open;obtain ⟨N, hN⟩ : ∃ N, l.length = N := ⟨_, rfl⟩;have HC := Lib.hid hc;have HN := Lib.hid hN;have HP := Lib.hid (mayLit_T l HM A);rw [hN] at hn ⊢;clear hc h hN HM;go_enter Tryz.func234, Tryz.ntmps234;go_wp2_with fail;go_loopw [8] (fun i wr => ∃ K : Nat, i = .int .i64 (K : Int) /\ K <= N /\ Hid (idxG (fun x => !itOk x) l 0 = idxG (fun x => !itOk x) (l.drop K) K /\ Below w.heap.size w wr)) (fun i _ => N - (intOf i).toNat)
 case atStart => exact ⟨0, rfl, Nat.zero_le _, Lib.hid ⟨rfl, Below.refl _ _⟩⟩
 case round =>
  obtain ⟨K, rfl, hK, HJ⟩ := hrel;by_cases hlt : K < N
  ·have hltI : (K : Int) < (N : Int) := by omega
   have hk0 : 0 <= (K : Int) := by omega
   have hw1 : IntKind.i64.wrap ((K : Int) + 1) = (K : Int) + 1 := IntWalk.i64_in _ (by omega);obtain ⟨x, hx⟩ : ∃ x, l[K]? = some x := ⟨_, List.getElem?_eq_getElem (by rw [HN.out]; exact hlt)⟩;obtain ⟨b, off, ea, cs, -, ⟨u, rfl, hu⟩, hcell⟩ := HC.out K x hx;subst ea;obtain ⟨au, cu, rfl, -⟩ := id hu.open;have k0 : wr.cell? ⟨b, off + K * 4, none⟩ = some (.string (str x.stream)) := za HJ.out.2 (hcell 0 _ rfl);have k1 : wr.cell? ⟨b, off + K * 4 + 1, none⟩ = some (.int .i64 x.st.pos) := za HJ.out.2 (hcell 1 _ rfl);have k2 : wr.cell? ⟨b, off + K * 4 + 2, none⟩ = some (.int .i64 x.st.ver) := za HJ.out.2 (hcell 2 _ rfl);have k3 : wr.cell? ⟨b, off + K * 4 + 3, none⟩ = some (.slice au x.st.vars.length cu) := za HJ.out.2 (hcell 3 _ rfl);clear hcell;have hd := HJ.out.1.trans (qd (p := fun x => !itOk x) hx);have HV := Lib.hid (HP.out (.agg #[.string (str x.stream), .int .i64 x.st.pos, .int .i64 x.st.ver, .slice au x.st.vars.length cu]) x wr (List.mem_of_getElem? hx) ⟨_, rfl, hu.below HJ.out.2⟩ (za HJ.out.2 hA));obtain ⟨c, hcv⟩ : ∃ c, (!itOk x) = c := ⟨_, rfl⟩;rw [hcv] at HV hd;have HD := Lib.hid hd;clear hd hx hcv hu;cases c with
   | true =>
    go_wp2_with (go_at_call 218; refine HV.out.mono ?_; rintro _ w1 ⟨rfl, hb1⟩; have HB1 := Lib.hid hb1; clear hb1)
    go_ret;exact ⟨by rw [HD.out]; rfl, HJ.out.2.trans (HB1.out.mono HJ.out.2.size)⟩
   | false =>
    go_wp2_with (go_at_call 218; refine HV.out.mono ?_; rintro _ w1 ⟨rfl, hb1⟩; have HB1 := Lib.hid hb1; clear hb1)
    go_roundw
    case rel => exact ⟨K + 1, by go_num, by omega, Lib.hid ⟨by rw [HD.out]; rfl, HJ.out.2.trans (HB1.out.mono HJ.out.2.size)⟩⟩
    case measure => simp [intOf]; omega
  ·have hltI : ¬ (K : Int) < (N : Int) := by omega
   have hd := HJ.out.1;rw [List.drop_of_length_le (i := K) (by rw [HN.out]; omega)] at hd;have HD := Lib.hid hd;clear hd;go_wp2_with fail;go_ret;exact ⟨by rw [HD.out]; rfl, HJ.out.2⟩
set_option maxHeartbeats 1000000 in
theorem has_T (l : List It) (HM : ∀ (W : World) (v : Value) (x : It), x ∈ l -> (∃ u, v = .agg #[.string (str x.stream), .int .i64 x.st.pos, .int .i64 x.st.ver, u] /\ SlN W u x.st.vars) -> Calls Tryz.prog 174 #[v] W fun e w' => e = .returned (.bool (itOk x)) /\ Below W.heap.size W w') (A : Nat) (v : Value) (w : World) (h : ItsIs w v l) (hn : l.length <= 4611686018427387904) (hA : w.cell? ⟨A, 0, none⟩ = some (.func (.func 174) #[] #[])) :
 Calls Tryz.prog 217 #[v, .func (.func 218) #[] #[.pointer (some ⟨A, 0, none⟩)]] w fun e w' => e = .returned (.bool (l.any fun x => !itOk x)) /\ Below w.heap.size w w' := by
 have HI := idx_T l HM A v w h hn hA;have ha := yZ (fun x => !itOk x) l 0;obtain ⟨i, hi⟩ : ∃ i, idxG (fun x => !itOk x) l 0 = i := ⟨_, rfl⟩;rw [hi] at HI ha;rw [<- ha];clear ha hi HM;obtain ⟨a, cap, rfl, -⟩ := h.open;go_enter Tryz.func217, Tryz.ntmps217;go_wp2_with fail;refine HI.mono ?_;rintro _ w1 ⟨rfl, hb⟩;go_wp2_with fail;go_ret;exact ⟨rfl, hb⟩
set_option maxHeartbeats 1000000 in
theorem mayList_T (l : List It) (HM : ∀ (W : World) (v : Value) (x : It), x ∈ l -> (∃ u, v = .agg #[.string (str x.stream), .int .i64 x.st.pos, .int .i64 x.st.ver, u] /\ SlN W u x.st.vars) -> Calls Tryz.prog 174 #[v] W fun e w' => e = .returned (.bool (itOk x)) /\ Below W.heap.size W w') (most : Nat) (m : Int) (em : m = (most : Int)) (v : Value) (w : World) (h : ItsIs w v l) (hn : l.length <= 4611686018427387904) :
 Calls Tryz.prog 177 #[v, .int .i64 m, .func (.func 174) #[] #[]] w fun e w' => e = .returned (.bool (l.all itOk && decide (l.length <= most))) /\ Below w.heap.size w w' := by
 have hmf : ∀ (fn : Fn) (first cap : Array Value) (w : World), (Instr.makeFunc fn first cap).run Tryz.prog w = .ok (.func fn first cap) w := fun _ _ _ _ => rfl
 subst em;obtain ⟨W0, hW0⟩ : ∃ W0, w.alloc (.cells #[.func (.func 174) #[] #[]] 189) = W0 := ⟨_, rfl⟩;have hB0 : Below w.heap.size w W0 := by rw [<- hW0]; exact zf _ _
 have kA : W0.cell? ⟨w.heap.size, 0, none⟩ = some (.func (.func 174) #[] #[]) := by rw [<- hW0]; exact ze w [_] _ 0 _ rfl
 have HI := Lib.hid (has_T l HM w.heap.size v W0 (h.below hB0) hn kA);have hall : (l.all itOk && decide (l.length <= most)) = (decide (l.length <= most) && !(l.any fun x => !itOk x)) := by
  rw [Bool.and_comm];congr 1
  rw [List.not_any_eq_all_not];simp
 rw [hall];obtain ⟨a, cap, rfl, -⟩ := id h.open;obtain ⟨N, hN⟩ : ∃ N, l.length = N := ⟨_, rfl⟩;obtain ⟨c, hcv⟩ : ∃ c, (l.any fun x => !itOk x) = c := ⟨_, rfl⟩;rw [hcv] at HI;rw [hN] at HI hn ⊢;rw [hcv];have HB0 := Lib.hid hB0;clear hcv hN HM h hall hB0 kA;by_cases hlt : N <= most
 ·have hltI : (N : Int) <= (most : Int) := by omega
  have d1 : decide ((N : Int) <= (most : Int)) = true := decide_eq_true hltI;rw [decide_eq_true hlt];go_enter Tryz.func177, Tryz.ntmps177;go_wp2_with fail;refine HI.out.mono ?_;rintro _ w1 ⟨rfl, hb1⟩;have HB1 := Lib.hid hb1;clear hb1;go_wp2_with fail;go_ret;exact ⟨by cases c <;> rfl, HB0.out.trans (HB1.out.mono HB0.out.size)⟩
 ·have hltI : ¬ (N : Int) <= (most : Int) := by omega
  have d1 : decide ((N : Int) <= (most : Int)) = false := decide_eq_false hltI;rw [decide_eq_false hlt];go_enter Tryz.func177, Tryz.ntmps177;go_wp2_with fail;go_ret;exact ⟨rfl, HB0.out⟩
end Go.Proofs.YtaidhoepnefcpaaGreat.C10
namespace Go.Proofs.YtaidhoepnefcpaaGreat.P8
open Go Go.RowKit Go.Shelf Go.Proofs B K
set_option linter.unusedVariables false
set_option maxRecDepth 100000
section
open Go.ChangeShapes Go.WideShapes Go.ChangeAt
variable {H : Type} {enc : TypeId × Value -> H} {P : Program} {W : World}
end
set_option maxHeartbeats 1000000 in
theorem check9_any (l : List (List UInt8)) (v : Value) (w : World) (h : Ts w v l) (hl : ∀ x ∈ l, x.length <= 9223372036854775807) :
 Calls Tryz.prog 163 #[v] w fun e w' => e = .returned (.tuple #[.int .i64 (check9 l).1, .int .i64 (check9 l).2]) /\ Below w.heap.size w w' := by
 obtain ⟨a, cap, rfl, hc⟩ := h.open;obtain ⟨N, hN⟩ : ∃ N, l.length = N := ⟨_, rfl⟩;have HC := Lib.hid hc;have HN := Lib.hid hN;have HL := Lib.hid hl;have hck : check9 l = if 8 < N then ((0 : Int), (4 : Int)) else match firstBad9 (l.drop 0) 0 with | some k => ((k : Int), (6 : Int)) | none => ((0 : Int), (0 : Int)) := by unfold check9; rw [hN]; rfl
 rw [hN];clear hc hl h hN;by_cases h8 : 8 < N
 ·have h8I : (8 : Int) < (N : Int) := by omega
  rw [if_pos h8] at hck;have HK := Lib.hid hck;clear hck h8;go_enter Tryz.func163, Tryz.ntmps163;go_wp2_with fail;go_ret2;exact ⟨jQ (by rw [HK.out]) (by rw [HK.out]), Below.refl _ _⟩
 ·have h8I : ¬ (8 : Int) < (N : Int) := by omega
  rw [if_neg h8] at hck;have HK := Lib.hid hck;have H8 := Lib.hid h8;clear hck h8;go_enter Tryz.func163, Tryz.ntmps163;go_wp2_with fail;go_loopw [11] (fun i wr => ∃ K : Nat, i = .int .i64 (K : Int) /\ K <= N /\ Hid (firstBad9 (l.drop 0) 0 = firstBad9 (l.drop K) K /\ Below w.heap.size w wr)) (fun i _ => N - (intOf i).toNat)
  case atStart => exact ⟨0, rfl, Nat.zero_le _, Lib.hid ⟨rfl, Below.refl _ _⟩⟩
  case round =>
   obtain ⟨K, rfl, hK, HJ⟩ := hrel;by_cases hlt : K < N
   ·have hltI : (K : Int) < (N : Int) := by omega
    have hk0 : 0 <= (K : Int) := by omega
    have hw1 : IntKind.i64.wrap ((K : Int) + 1) = (K : Int) + 1 := IntWalk.i64_in _ (by have := H8.out; omega);obtain ⟨x, hx⟩ : ∃ x, l[K]? = some x := ⟨_, List.getElem?_eq_getElem (by rw [HN.out]; exact hlt)⟩;obtain ⟨b, off, rfl, hcell⟩ := HC.out K x hx;have hc1 := cell_b HJ.out.2 hcell;have hd := HJ.out.1.trans (uA hx);have HP := Lib.hid (fun W => pattern_any x (HL.out x (List.mem_of_getElem? hx)) W);obtain ⟨p, hp⟩ : ∃ p, patP x = p := ⟨_, rfl⟩;rw [hp] at HP hd;have HD := Lib.hid hd;clear hd hp hcell hx;cases p with
    | true =>
     go_wp2_with (go_at_call 206; refine (HP.out _).mono ?_; rintro _ w1 ⟨rfl, hb1⟩; have HB1 := Lib.hid hb1; clear hb1)
     go_roundw
     case rel => exact ⟨K + 1, by go_num, by omega, Lib.hid ⟨HD.out, HJ.out.2.trans (HB1.out.mono HJ.out.2.size)⟩⟩
     case measure => simp [intOf]; omega
    | false =>
     go_wp2_with (go_at_call 206; refine (HP.out _).mono ?_; rintro _ w1 ⟨rfl, hb1⟩; have HB1 := Lib.hid hb1; clear hb1)
     go_ret2;have hd := HD.out;simp only [Bool.false_eq_true, if_false] at hd;exact ⟨jQ (by rw [HK.out, hd]) (by rw [HK.out, hd]), HJ.out.2.trans (HB1.out.mono HJ.out.2.size)⟩
   ·have hltI : ¬ (K : Int) < (N : Int) := by omega
    have hd := HJ.out.1;rw [List.drop_of_length_le (i := K) (by rw [HN.out]; omega)] at hd;have HD := Lib.hid hd;clear hd;go_wp2_with fail;go_ret2;exact ⟨jQ (by rw [HK.out, HD.out]; rfl) (by rw [HK.out, HD.out]; rfl), HJ.out.2⟩
end Go.Proofs.YtaidhoepnefcpaaGreat.P8
