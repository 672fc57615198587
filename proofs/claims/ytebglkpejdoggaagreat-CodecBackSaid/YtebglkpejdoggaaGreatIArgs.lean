/-
  Layer 10, the program: slices.IndexFunc, ContainsFunc and mayList of surmise/api.Event.
  Layer 10, the program: slices.IndexFunc, ContainsFunc and mayList of surmise/api.Item.
  Layer 9, the document's answers: covering, what filters have in common, and the normal form.
  Arguments that are slices of numbers or of texts, as they read.
  A slice that was handed over: its length is at most its capacity.
-/
import Derived.Test.YtebglkpejdoggaaGreatP10PmV
import Derived.Test.YtebglkpejdoggaaGreatP9Ref
import Derived.Deep.RegionHeld3
import Derived.Deep.DeepCutAuto
import Derived.Deep.LoopGhost
import Derived.ProofKit
import Derived.SliceStrings
import Derived.Deep.Fields
import Derived.Lib.SmallJoins
import Derived.Test.YtebglkpejdoggaaGreatP10Mem
namespace Go.Proofs.YtebglkpejdoggaaGreat.C10
open Go Go.RowKit Go.Proofs Go.Proofs.YtebglkpejdoggaaGreat.B Go.Proofs.YtebglkpejdoggaaGreat.K Go.Proofs.YtebglkpejdoggaaGreat.P8
set_option linter.unusedVariables false
set_option maxRecDepth 100000

set_option maxHeartbeats 1000000 in
theorem mayLit_E (l : List Ev) (HM : ∀ (W : World) (v : Value) (x : Ev), x ∈ l → (∃ u, v = .agg #[.int .i64 x.pos, u] ∧ SlN W u x.vars) → Calls Tryz.prog 129 #[v] W fun e w' => e = .returned (.bool (evP x)) ∧ Below W.heap.size W w') (A : Nat) (v : Value) (x : Ev) (W : World) (hx : x ∈ l) (hv : ∃ u, v = .agg #[.int .i64 x.pos, u] ∧ SlN W u x.vars) (hA : W.cell? ⟨A, 0, none⟩ = some (.func (.func 129) #[] #[])) :
    Calls Tryz.prog 146 #[v, .pointer (some ⟨A, 0, none⟩)] W fun e w' => e = .returned (.bool (!evP x)) ∧ Below W.heap.size W w' := by
  obtain ⟨u, rfl, hu⟩ := hv
  obtain ⟨au, cu, rfl, -⟩ := id hu.open
  obtain ⟨W0, hW0⟩ : ∃ W0, W.alloc (.cells #[.int .i64 x.pos, .slice au x.vars.length cu] 133) = W0 := ⟨_, rfl⟩
  have hB0 : Below W.heap.size W W0 := by rw [← hW0]; exact below_alloc _ _
  have k0 : W0.cell? ⟨W.heap.size, 0, none⟩ = some (.int .i64 x.pos) := by rw [← hW0]; exact alloc_cell W [_, _] _ 0 _ rfl
  have k1 : W0.cell? ⟨W.heap.size, 1, none⟩ = some (.slice au x.vars.length cu) := by rw [← hW0]; exact alloc_cell W [_, _] _ 1 _ rfl
  have kA := kept_cell hB0 hA
  have HC := Lib.hid (HM W0 _ x hx ⟨_, rfl, hu.below hB0⟩)
  obtain ⟨p, hp⟩ : ∃ p, evP x = p := ⟨_, rfl⟩
  rw [hp] at HC ⊢
  have HB0 := Lib.hid hB0
  clear HM hp hx hA hB0
  go_enter Tryz.func146, Tryz.ntmps146
  go_wp2_with (go_at_call 129; refine HC.out.mono ?_; rintro _ w1 ⟨rfl, hb1⟩; have HB1 := Lib.hid hb1; clear hb1)
  go_ret
  exact ⟨rfl, HB0.out.trans (HB1.out.mono HB0.out.size)⟩

set_option maxHeartbeats 2000000 in
theorem idx_E (l : List Ev) (HM : ∀ (W : World) (v : Value) (x : Ev), x ∈ l → (∃ u, v = .agg #[.int .i64 x.pos, u] ∧ SlN W u x.vars) → Calls Tryz.prog 129 #[v] W fun e w' => e = .returned (.bool (evP x)) ∧ Below W.heap.size W w') (A : Nat) (v : Value) (w : World) (h : EvsIs w v l) (hn : l.length ≤ 4611686018427387904) (hA : w.cell? ⟨A, 0, none⟩ = some (.func (.func 129) #[] #[])) :
    Calls Tryz.prog 152 #[v, .func (.func 146) #[] #[.pointer (some ⟨A, 0, none⟩)]] w fun e w' => e = .returned (.int .i64 (idxG (fun x => !evP x) l 0)) ∧ Below w.heap.size w w' := by
  obtain ⟨a, cap, rfl, hc⟩ := h.open
  obtain ⟨N, hN⟩ : ∃ N, l.length = N := ⟨_, rfl⟩
  have HC := Lib.hid hc
  have HN := Lib.hid hN
  have HP := Lib.hid (mayLit_E l HM A)
  rw [hN] at hn ⊢
  clear hc h hN HM
  go_enter Tryz.func152, Tryz.ntmps152
  go_wp2_with fail
  go_loopw [8] (fun i wr => ∃ K : Nat, i = .int .i64 (K : Int) ∧ K ≤ N ∧ Hid (idxG (fun x => !evP x) l 0 = idxG (fun x => !evP x) (l.drop K) K ∧ Below w.heap.size w wr)) (fun i _ => N - (intOf i).toNat)
  case atStart => exact ⟨0, rfl, Nat.zero_le _, Lib.hid ⟨rfl, Below.refl _ _⟩⟩
  case round =>
    obtain ⟨K, rfl, hK, HJ⟩ := hrel
    by_cases hlt : K < N
    · have hltI : (K : Int) < (N : Int) := by omega
      have hk0 : 0 ≤ (K : Int) := by omega
      have hw1 : IntKind.i64.wrap ((K : Int) + 1) = (K : Int) + 1 := IntWalk.i64_in _ (by omega)
      obtain ⟨x, hx⟩ : ∃ x, l[K]? = some x := ⟨_, List.getElem?_eq_getElem (by rw [HN.out]; exact hlt)⟩
      obtain ⟨b, off, ea, cs, -, ⟨u, rfl, hu⟩, hcell⟩ := HC.out K x hx
      subst ea
      obtain ⟨au, cu, rfl, -⟩ := id hu.open
      have k0 : wr.cell? ⟨b, off + K * 2, none⟩ = some (.int .i64 x.pos) := kept_cell HJ.out.2 (hcell 0 _ rfl)
      have k1 : wr.cell? ⟨b, off + K * 2 + 1, none⟩ = some (.slice au x.vars.length cu) := kept_cell HJ.out.2 (hcell 1 _ rfl)
      clear hcell
      have hd := HJ.out.1.trans (idxG_drop (p := fun x => !evP x) hx)
      have HV := Lib.hid (HP.out (.agg #[.int .i64 x.pos, .slice au x.vars.length cu]) x wr (List.mem_of_getElem? hx) ⟨_, rfl, hu.below HJ.out.2⟩ (kept_cell HJ.out.2 hA))
      obtain ⟨c, hcv⟩ : ∃ c, (!evP x) = c := ⟨_, rfl⟩
      rw [hcv] at HV hd
      have HD := Lib.hid hd
      clear hd hx hcv hu
      cases c with
      | true =>
        go_wp2_with (go_at_call 146; refine HV.out.mono ?_; rintro _ w1 ⟨rfl, hb1⟩; have HB1 := Lib.hid hb1; clear hb1)
        go_ret
        exact ⟨by rw [HD.out]; rfl, HJ.out.2.trans (HB1.out.mono HJ.out.2.size)⟩
      | false =>
        go_wp2_with (go_at_call 146; refine HV.out.mono ?_; rintro _ w1 ⟨rfl, hb1⟩; have HB1 := Lib.hid hb1; clear hb1)
        go_roundw
        case rel => exact ⟨K + 1, by go_num, by omega, Lib.hid ⟨by rw [HD.out]; rfl, HJ.out.2.trans (HB1.out.mono HJ.out.2.size)⟩⟩
        case measure => simp [intOf]; omega
    · have hltI : ¬ (K : Int) < (N : Int) := by omega
      have hd := HJ.out.1
      rw [List.drop_of_length_le (i := K) (by rw [HN.out]; omega)] at hd
      have HD := Lib.hid hd
      clear hd
      go_wp2_with fail
      go_ret
      exact ⟨by rw [HD.out]; rfl, HJ.out.2⟩

set_option maxHeartbeats 1000000 in
theorem has_E (l : List Ev) (HM : ∀ (W : World) (v : Value) (x : Ev), x ∈ l → (∃ u, v = .agg #[.int .i64 x.pos, u] ∧ SlN W u x.vars) → Calls Tryz.prog 129 #[v] W fun e w' => e = .returned (.bool (evP x)) ∧ Below W.heap.size W w') (A : Nat) (v : Value) (w : World) (h : EvsIs w v l) (hn : l.length ≤ 4611686018427387904) (hA : w.cell? ⟨A, 0, none⟩ = some (.func (.func 129) #[] #[])) :
    Calls Tryz.prog 145 #[v, .func (.func 146) #[] #[.pointer (some ⟨A, 0, none⟩)]] w fun e w' => e = .returned (.bool (l.any fun x => !evP x)) ∧ Below w.heap.size w w' := by
  have HI := idx_E l HM A v w h hn hA
  have ha := idxG_any (fun x => !evP x) l 0
  obtain ⟨i, hi⟩ : ∃ i, idxG (fun x => !evP x) l 0 = i := ⟨_, rfl⟩
  rw [hi] at HI ha
  rw [← ha]
  clear ha hi HM
  obtain ⟨a, cap, rfl, -⟩ := h.open
  go_enter Tryz.func145, Tryz.ntmps145
  go_wp2_with fail
  refine HI.mono ?_
  rintro _ w1 ⟨rfl, hb⟩
  go_wp2_with fail
  go_ret
  exact ⟨rfl, hb⟩

set_option maxHeartbeats 1000000 in
theorem mayList_E (l : List Ev) (HM : ∀ (W : World) (v : Value) (x : Ev), x ∈ l → (∃ u, v = .agg #[.int .i64 x.pos, u] ∧ SlN W u x.vars) → Calls Tryz.prog 129 #[v] W fun e w' => e = .returned (.bool (evP x)) ∧ Below W.heap.size W w') (most : Nat) (m : Int) (em : m = (most : Int)) (v : Value) (w : World) (h : EvsIs w v l) (hn : l.length ≤ 4611686018427387904) :
    Calls Tryz.prog 128 #[v, .int .i64 m, .func (.func 129) #[] #[]] w fun e w' => e = .returned (.bool (l.all evP && decide (l.length ≤ most))) ∧ Below w.heap.size w w' := by
  have hmf : ∀ (fn : Fn) (first cap : Array Value) (w : World), (Instr.makeFunc fn first cap).run Tryz.prog w = .ok (.func fn first cap) w := fun _ _ _ _ => rfl
  subst em
  obtain ⟨W0, hW0⟩ : ∃ W0, w.alloc (.cells #[.func (.func 129) #[] #[]] 163) = W0 := ⟨_, rfl⟩
  have hB0 : Below w.heap.size w W0 := by rw [← hW0]; exact below_alloc _ _
  have kA : W0.cell? ⟨w.heap.size, 0, none⟩ = some (.func (.func 129) #[] #[]) := by rw [← hW0]; exact alloc_cell w [_] _ 0 _ rfl
  have HI := Lib.hid (has_E l HM w.heap.size v W0 (h.below hB0) hn kA)
  have hall : (l.all evP && decide (l.length ≤ most)) = (decide (l.length ≤ most) && !(l.any fun x => !evP x)) := by
    rw [Bool.and_comm]
    congr 1
    rw [List.not_any_eq_all_not]
    simp
  rw [hall]
  obtain ⟨a, cap, rfl, -⟩ := id h.open
  obtain ⟨N, hN⟩ : ∃ N, l.length = N := ⟨_, rfl⟩
  obtain ⟨c, hcv⟩ : ∃ c, (l.any fun x => !evP x) = c := ⟨_, rfl⟩
  rw [hcv] at HI
  rw [hN] at HI hn ⊢
  rw [hcv]
  have HB0 := Lib.hid hB0
  clear hcv hN HM h hall hB0 kA
  by_cases hlt : N ≤ most
  · have hltI : (N : Int) ≤ (most : Int) := by omega
    have d1 : decide ((N : Int) ≤ (most : Int)) = true := decide_eq_true hltI
    rw [decide_eq_true hlt]
    go_enter Tryz.func128, Tryz.ntmps128
    go_wp2_with fail
    refine HI.out.mono ?_
    rintro _ w1 ⟨rfl, hb1⟩
    have HB1 := Lib.hid hb1
    clear hb1
    go_wp2_with fail
    go_ret
    exact ⟨by cases c <;> rfl, HB0.out.trans (HB1.out.mono HB0.out.size)⟩
  · have hltI : ¬ (N : Int) ≤ (most : Int) := by omega
    have d1 : decide ((N : Int) ≤ (most : Int)) = false := decide_eq_false hltI
    rw [decide_eq_false hlt]
    go_enter Tryz.func128, Tryz.ntmps128
    go_wp2_with fail
    go_ret
    exact ⟨rfl, HB0.out⟩
end Go.Proofs.YtebglkpejdoggaaGreat.C10

namespace Go.Proofs.YtebglkpejdoggaaGreat.C10
open Go Go.RowKit Go.Proofs Go.Proofs.YtebglkpejdoggaaGreat.B Go.Proofs.YtebglkpejdoggaaGreat.K Go.Proofs.YtebglkpejdoggaaGreat.P8
set_option linter.unusedVariables false
set_option maxRecDepth 100000

set_option maxHeartbeats 1000000 in
theorem mayLit_T (l : List It) (HM : ∀ (W : World) (v : Value) (x : It), x ∈ l → (∃ u, v = .agg #[.string (str x.stream), .int .i64 x.st.pos, .int .i64 x.st.ver, u] ∧ SlN W u x.st.vars) → Calls Tryz.prog 66 #[v] W fun e w' => e = .returned (.bool (itOk x)) ∧ Below W.heap.size W w') (A : Nat) (v : Value) (x : It) (W : World) (hx : x ∈ l) (hv : ∃ u, v = .agg #[.string (str x.stream), .int .i64 x.st.pos, .int .i64 x.st.ver, u] ∧ SlN W u x.st.vars) (hA : W.cell? ⟨A, 0, none⟩ = some (.func (.func 66) #[] #[])) :
    Calls Tryz.prog 110 #[v, .pointer (some ⟨A, 0, none⟩)] W fun e w' => e = .returned (.bool (!itOk x)) ∧ Below W.heap.size W w' := by
  obtain ⟨u, rfl, hu⟩ := hv
  obtain ⟨au, cu, rfl, -⟩ := id hu.open
  obtain ⟨W0, hW0⟩ : ∃ W0, W.alloc (.cells #[.string (str x.stream), .int .i64 x.st.pos, .int .i64 x.st.ver, .slice au x.st.vars.length cu] 73) = W0 := ⟨_, rfl⟩
  have hB0 : Below W.heap.size W W0 := by rw [← hW0]; exact below_alloc _ _
  have k0 : W0.cell? ⟨W.heap.size, 0, none⟩ = some (.string (str x.stream)) := by rw [← hW0]; exact alloc_cell W [_, _, _, _] _ 0 _ rfl
  have k1 : W0.cell? ⟨W.heap.size, 1, none⟩ = some (.int .i64 x.st.pos) := by rw [← hW0]; exact alloc_cell W [_, _, _, _] _ 1 _ rfl
  have k2 : W0.cell? ⟨W.heap.size, 2, none⟩ = some (.int .i64 x.st.ver) := by rw [← hW0]; exact alloc_cell W [_, _, _, _] _ 2 _ rfl
  have k3 : W0.cell? ⟨W.heap.size, 3, none⟩ = some (.slice au x.st.vars.length cu) := by rw [← hW0]; exact alloc_cell W [_, _, _, _] _ 3 _ rfl
  have kA := kept_cell hB0 hA
  have HC := Lib.hid (HM W0 _ x hx ⟨_, rfl, hu.below hB0⟩)
  obtain ⟨p, hp⟩ : ∃ p, itOk x = p := ⟨_, rfl⟩
  rw [hp] at HC ⊢
  have HB0 := Lib.hid hB0
  clear HM hp hx hA hB0
  go_enter Tryz.func110, Tryz.ntmps110
  go_wp2_with (go_at_call 66; refine HC.out.mono ?_; rintro _ w1 ⟨rfl, hb1⟩; have HB1 := Lib.hid hb1; clear hb1)
  go_ret
  exact ⟨rfl, HB0.out.trans (HB1.out.mono HB0.out.size)⟩

set_option maxHeartbeats 2000000 in
theorem idx_T (l : List It) (HM : ∀ (W : World) (v : Value) (x : It), x ∈ l → (∃ u, v = .agg #[.string (str x.stream), .int .i64 x.st.pos, .int .i64 x.st.ver, u] ∧ SlN W u x.st.vars) → Calls Tryz.prog 66 #[v] W fun e w' => e = .returned (.bool (itOk x)) ∧ Below W.heap.size W w') (A : Nat) (v : Value) (w : World) (h : ItsIs w v l) (hn : l.length ≤ 4611686018427387904) (hA : w.cell? ⟨A, 0, none⟩ = some (.func (.func 66) #[] #[])) :
    Calls Tryz.prog 136 #[v, .func (.func 110) #[] #[.pointer (some ⟨A, 0, none⟩)]] w fun e w' => e = .returned (.int .i64 (idxG (fun x => !itOk x) l 0)) ∧ Below w.heap.size w w' := by
  obtain ⟨a, cap, rfl, hc⟩ := h.open
  obtain ⟨N, hN⟩ : ∃ N, l.length = N := ⟨_, rfl⟩
  have HC := Lib.hid hc
  have HN := Lib.hid hN
  have HP := Lib.hid (mayLit_T l HM A)
  rw [hN] at hn ⊢
  clear hc h hN HM
  go_enter Tryz.func136, Tryz.ntmps136
  go_wp2_with fail
  go_loopw [8] (fun i wr => ∃ K : Nat, i = .int .i64 (K : Int) ∧ K ≤ N ∧ Hid (idxG (fun x => !itOk x) l 0 = idxG (fun x => !itOk x) (l.drop K) K ∧ Below w.heap.size w wr)) (fun i _ => N - (intOf i).toNat)
  case atStart => exact ⟨0, rfl, Nat.zero_le _, Lib.hid ⟨rfl, Below.refl _ _⟩⟩
  case round =>
    obtain ⟨K, rfl, hK, HJ⟩ := hrel
    by_cases hlt : K < N
    · have hltI : (K : Int) < (N : Int) := by omega
      have hk0 : 0 ≤ (K : Int) := by omega
      have hw1 : IntKind.i64.wrap ((K : Int) + 1) = (K : Int) + 1 := IntWalk.i64_in _ (by omega)
      obtain ⟨x, hx⟩ : ∃ x, l[K]? = some x := ⟨_, List.getElem?_eq_getElem (by rw [HN.out]; exact hlt)⟩
      obtain ⟨b, off, ea, cs, -, ⟨u, rfl, hu⟩, hcell⟩ := HC.out K x hx
      subst ea
      obtain ⟨au, cu, rfl, -⟩ := id hu.open
      have k0 : wr.cell? ⟨b, off + K * 4, none⟩ = some (.string (str x.stream)) := kept_cell HJ.out.2 (hcell 0 _ rfl)
      have k1 : wr.cell? ⟨b, off + K * 4 + 1, none⟩ = some (.int .i64 x.st.pos) := kept_cell HJ.out.2 (hcell 1 _ rfl)
      have k2 : wr.cell? ⟨b, off + K * 4 + 2, none⟩ = some (.int .i64 x.st.ver) := kept_cell HJ.out.2 (hcell 2 _ rfl)
      have k3 : wr.cell? ⟨b, off + K * 4 + 3, none⟩ = some (.slice au x.st.vars.length cu) := kept_cell HJ.out.2 (hcell 3 _ rfl)
      clear hcell
      have hd := HJ.out.1.trans (idxG_drop (p := fun x => !itOk x) hx)
      have HV := Lib.hid (HP.out (.agg #[.string (str x.stream), .int .i64 x.st.pos, .int .i64 x.st.ver, .slice au x.st.vars.length cu]) x wr (List.mem_of_getElem? hx) ⟨_, rfl, hu.below HJ.out.2⟩ (kept_cell HJ.out.2 hA))
      obtain ⟨c, hcv⟩ : ∃ c, (!itOk x) = c := ⟨_, rfl⟩
      rw [hcv] at HV hd
      have HD := Lib.hid hd
      clear hd hx hcv hu
      cases c with
      | true =>
        go_wp2_with (go_at_call 110; refine HV.out.mono ?_; rintro _ w1 ⟨rfl, hb1⟩; have HB1 := Lib.hid hb1; clear hb1)
        go_ret
        exact ⟨by rw [HD.out]; rfl, HJ.out.2.trans (HB1.out.mono HJ.out.2.size)⟩
      | false =>
        go_wp2_with (go_at_call 110; refine HV.out.mono ?_; rintro _ w1 ⟨rfl, hb1⟩; have HB1 := Lib.hid hb1; clear hb1)
        go_roundw
        case rel => exact ⟨K + 1, by go_num, by omega, Lib.hid ⟨by rw [HD.out]; rfl, HJ.out.2.trans (HB1.out.mono HJ.out.2.size)⟩⟩
        case measure => simp [intOf]; omega
    · have hltI : ¬ (K : Int) < (N : Int) := by omega
      have hd := HJ.out.1
      rw [List.drop_of_length_le (i := K) (by rw [HN.out]; omega)] at hd
      have HD := Lib.hid hd
      clear hd
      go_wp2_with fail
      go_ret
      exact ⟨by rw [HD.out]; rfl, HJ.out.2⟩

set_option maxHeartbeats 1000000 in
theorem has_T (l : List It) (HM : ∀ (W : World) (v : Value) (x : It), x ∈ l → (∃ u, v = .agg #[.string (str x.stream), .int .i64 x.st.pos, .int .i64 x.st.ver, u] ∧ SlN W u x.st.vars) → Calls Tryz.prog 66 #[v] W fun e w' => e = .returned (.bool (itOk x)) ∧ Below W.heap.size W w') (A : Nat) (v : Value) (w : World) (h : ItsIs w v l) (hn : l.length ≤ 4611686018427387904) (hA : w.cell? ⟨A, 0, none⟩ = some (.func (.func 66) #[] #[])) :
    Calls Tryz.prog 109 #[v, .func (.func 110) #[] #[.pointer (some ⟨A, 0, none⟩)]] w fun e w' => e = .returned (.bool (l.any fun x => !itOk x)) ∧ Below w.heap.size w w' := by
  have HI := idx_T l HM A v w h hn hA
  have ha := idxG_any (fun x => !itOk x) l 0
  obtain ⟨i, hi⟩ : ∃ i, idxG (fun x => !itOk x) l 0 = i := ⟨_, rfl⟩
  rw [hi] at HI ha
  rw [← ha]
  clear ha hi HM
  obtain ⟨a, cap, rfl, -⟩ := h.open
  go_enter Tryz.func109, Tryz.ntmps109
  go_wp2_with fail
  refine HI.mono ?_
  rintro _ w1 ⟨rfl, hb⟩
  go_wp2_with fail
  go_ret
  exact ⟨rfl, hb⟩

set_option maxHeartbeats 1000000 in
theorem mayList_T (l : List It) (HM : ∀ (W : World) (v : Value) (x : It), x ∈ l → (∃ u, v = .agg #[.string (str x.stream), .int .i64 x.st.pos, .int .i64 x.st.ver, u] ∧ SlN W u x.st.vars) → Calls Tryz.prog 66 #[v] W fun e w' => e = .returned (.bool (itOk x)) ∧ Below W.heap.size W w') (most : Nat) (m : Int) (em : m = (most : Int)) (v : Value) (w : World) (h : ItsIs w v l) (hn : l.length ≤ 4611686018427387904) :
    Calls Tryz.prog 70 #[v, .int .i64 m, .func (.func 66) #[] #[]] w fun e w' => e = .returned (.bool (l.all itOk && decide (l.length ≤ most))) ∧ Below w.heap.size w w' := by
  have hmf : ∀ (fn : Fn) (first cap : Array Value) (w : World), (Instr.makeFunc fn first cap).run Tryz.prog w = .ok (.func fn first cap) w := fun _ _ _ _ => rfl
  subst em
  obtain ⟨W0, hW0⟩ : ∃ W0, w.alloc (.cells #[.func (.func 66) #[] #[]] 104) = W0 := ⟨_, rfl⟩
  have hB0 : Below w.heap.size w W0 := by rw [← hW0]; exact below_alloc _ _
  have kA : W0.cell? ⟨w.heap.size, 0, none⟩ = some (.func (.func 66) #[] #[]) := by rw [← hW0]; exact alloc_cell w [_] _ 0 _ rfl
  have HI := Lib.hid (has_T l HM w.heap.size v W0 (h.below hB0) hn kA)
  have hall : (l.all itOk && decide (l.length ≤ most)) = (decide (l.length ≤ most) && !(l.any fun x => !itOk x)) := by
    rw [Bool.and_comm]
    congr 1
    rw [List.not_any_eq_all_not]
    simp
  rw [hall]
  obtain ⟨a, cap, rfl, -⟩ := id h.open
  obtain ⟨N, hN⟩ : ∃ N, l.length = N := ⟨_, rfl⟩
  obtain ⟨c, hcv⟩ : ∃ c, (l.any fun x => !itOk x) = c := ⟨_, rfl⟩
  rw [hcv] at HI
  rw [hN] at HI hn ⊢
  rw [hcv]
  have HB0 := Lib.hid hB0
  clear hcv hN HM h hall hB0 kA
  by_cases hlt : N ≤ most
  · have hltI : (N : Int) ≤ (most : Int) := by omega
    have d1 : decide ((N : Int) ≤ (most : Int)) = true := decide_eq_true hltI
    rw [decide_eq_true hlt]
    go_enter Tryz.func70, Tryz.ntmps70
    go_wp2_with fail
    refine HI.out.mono ?_
    rintro _ w1 ⟨rfl, hb1⟩
    have HB1 := Lib.hid hb1
    clear hb1
    go_wp2_with fail
    go_ret
    exact ⟨by cases c <;> rfl, HB0.out.trans (HB1.out.mono HB0.out.size)⟩
  · have hltI : ¬ (N : Int) ≤ (most : Int) := by omega
    have d1 : decide ((N : Int) ≤ (most : Int)) = false := decide_eq_false hltI
    rw [decide_eq_false hlt]
    go_enter Tryz.func70, Tryz.ntmps70
    go_wp2_with fail
    go_ret
    exact ⟨rfl, HB0.out⟩
end Go.Proofs.YtebglkpejdoggaaGreat.C10

namespace Go.Proofs.YtebglkpejdoggaaGreat.P8
open Go Go.RowKit Go.Shelf Go.Proofs Go.Proofs.YtebglkpejdoggaaGreat.B Go.Proofs.YtebglkpejdoggaaGreat.K
set_option linter.unusedVariables false
set_option maxRecDepth 100000

/-- Where a pattern is put in, text by text. -/
def putIn (p : List UInt8) (O : List (List UInt8)) (k : Nat) (done : Bool) : List (List UInt8) := if done then O.drop k else insL p (O.drop k)
theorem putIn_at {p : List UInt8} {O : List (List UInt8)} {k : Nat} {x : List UInt8} (h : O[k]? = some x) : putIn p O k false = if lessL p x then p :: x :: putIn p O (k + 1) true else x :: putIn p O (k + 1) false := by
  obtain ⟨hlt, rfl⟩ := List.getElem?_eq_some_iff.1 h
  unfold putIn
  simp only [Bool.false_eq_true, if_false, if_true]
  rw [List.drop_eq_getElem_cons hlt, insL]
theorem putIn_done {p : List UInt8} {O : List (List UInt8)} {k : Nat} {x : List UInt8} (h : O[k]? = some x) : putIn p O k true = x :: putIn p O (k + 1) true := by
  obtain ⟨hlt, rfl⟩ := List.getElem?_eq_some_iff.1 h
  unfold putIn
  simp only [if_true]
  rw [List.drop_eq_getElem_cons hlt]
theorem putIn_end {p : List UInt8} {O : List (List UInt8)} {k : Nat} (h : O.length ≤ k) (d : Bool) : putIn p O k d = if d then [] else [p] := by
  unfold putIn
  rw [List.drop_of_length_le h]; rfl
theorem ins_len (p : List UInt8) : ∀ l, (insL p l).length = l.length + 1
  | [] => rfl
  | x :: l => by
    unfold insL
    split
    · rfl
    · rw [List.length_cons, ins_len p l]; rfl
theorem Sl.at2 {w : World} {a : Option Addr} {n cap : Nat} {l : List (List UInt8)} {j : Nat} {x : List UInt8} (h : Ts w (.slice a n cap) l) (hx : l[j]? = some x) : ∃ b off, a = some ⟨b, off, none⟩ ∧ w.cell? ⟨b, off + j, none⟩ = some (.string (str x)) := by
  obtain ⟨a', cap', e, hc⟩ := h.open
  cases e
  exact hc j x hx
theorem ts_own {w : World} {base n : Nat} {v : Value} {l : List (List UInt8)} (h : w.ownsRow base 9 1 v n (l.map sv)) : Ts w v l := Sl.owns h
theorem shape_own {w : World} {base : Nat} {e : TypeId} {s : Nat} {v : Value} {n : Nat} {xs : List Value} (h : w.ownsRow base e s v n xs) : ∃ a cap, v = .slice a n cap := by
  rcases h.2 with ⟨rfl, h0⟩ | ⟨g, cap, cur, rfl, _⟩
  · exact ⟨none, 0, by rw [h0]⟩
  · exact ⟨_, _, rfl⟩
theorem own_keep {w w' : World} {B : Nat} {e : TypeId} {k : Nat} {v : Value} {n : Nat} {xs : List Value} (h : w.ownsRow B e k v n xs) (hb : Below w.heap.size w w') : w'.ownsRow B e k v n xs :=
  h.kept (row := none) ⟨hb.os, hb.tape, hb.output, hb.size, fun j hj _ => hb.block j hj⟩ (by cases hv : v.ownBlock <;> simp)

end Go.Proofs.YtebglkpejdoggaaGreat.P8

namespace Go.Proofs.YtebglkpejdoggaaGreat.K
open Go Go.RowKit Go.ChangeShapes Go.WideShapes Go.ChangeAt

section
variable {H : Type} {enc : TypeId × Value → H} {P : Program} {W : World}

theorem Sl.args {v : Value} {a : Addr} {len cap : Nat} {all : List Value} (hlen : len ≤ all.length) (hv : v = .slice (some a) len cap) (hc : ∀ i u, all[i]? = some u → W.cell? (a.add i) = some u) : Sl W v (all.take len) := by
  subst hv
  have hl : (all.take len).length = len := by simp; omega
  refine ⟨some a, cap, by rw [hl], fun j u hj => ?_⟩
  have hj' : j < len := by
    have := (List.getElem?_eq_some_iff.1 hj).1
    omega
  rw [List.getElem?_take_of_lt hj'] at hj
  have h0 := hc j u hj
  have h1 : a.spot = none := by
    have hz : all[0]? = some all[0] := List.getElem?_eq_getElem (by omega)
    simpa [Addr.add] using World.cell?_spot (hc 0 _ hz)
  obtain ⟨b, off, spot⟩ := a
  subst h1
  exact ⟨b, off, rfl, by rw [← add_plain]; exact h0⟩

/-- A value that reads as a slice of ints (a field, an argument). -/
theorem ints_field {t e : TypeId} (ht : P.underlying t = some (.slice e)) (he : P.underlying e = some (.int .i64)) (hc : P.cellsOf e = 1) {fuel : Nat} {v : Value} {y : DataW H × List MemPlace}
    (hf : DataW.trod enc P W 0 (fun _ => true) true fuel t [v] = some y) :
    ∃ xs : List Int, Sl W v (xs.map (Value.int .i64)) ∧ (∀ x ∈ xs, -9223372036854775808 ≤ x ∧ x ≤ 9223372036854775807) ∧ xs.length ≤ maxLen := by
  rcases open_ints ht he hc hf with ⟨hcs, _⟩ | ⟨a, len, cap, zs, hcs, _, hl, hm, hz, _, hcell, hwz⟩
  · simp at hcs
    subst hcs
    exact ⟨[], Sl.nil W, by simp, by simp⟩
  · simp at hcs
    subst hcs
    simp only [if_true] at hz
    refine ⟨zs.take len, ?_, fun x hx => ?_, by rw [List.length_take]; omega⟩
    · rw [List.map_take]
      refine Sl.args (by rw [List.length_map]; omega) rfl (fun i u hi => ?_)
      rw [List.getElem?_map] at hi
      cases hzi : zs[i]? with
      | none => rw [hzi] at hi; cases hi
      | some z =>
        rw [hzi] at hi
        obtain ⟨hil, hze⟩ := List.getElem?_eq_some_iff.1 hzi
        have := hcell i hil
        rw [this, ← hi]
        simp [List.getD, hzi]
    · have := hwz x (List.mem_of_mem_take hx)
      simpa [Lit.wf, IntKind.min, IntKind.max, IntKind.signed, IntKind.bits] using this

/-- An argument of type []int. -/
theorem ints_arg {t e : TypeId} (ht : P.underlying t = some (.slice e)) (he : P.underlying e = some (.int .i64)) (hc : P.cellsOf e = 1) {base : Nat} {v : Value} {d : DataW H} {p : List MemPlace}
    (hval : Value.okWide P W .any base t v) (hd : DataW.Trod enc P W 0 (fun _ => true) true t v d p) :
    ∃ xs : List Int, Sl W v (xs.map (Value.int .i64)) ∧ (∀ x ∈ xs, -9223372036854775808 ≤ x ∧ x ≤ 9223372036854775807) ∧ xs.length ≤ maxLen := by
  obtain ⟨a0, len, cap, rfl⟩ := okWide_slice ht hval
  obtain ⟨fuel, hf⟩ := hd
  exact ints_field ht he hc (by simpa [Value.cells] using hf)

/-- A value that reads as a slice of texts. -/
theorem strs_field {t e : TypeId} (ht : P.underlying t = some (.slice e)) (he : P.underlying e = some .string) (hc : P.cellsOf e = 1) {fuel : Nat} {v : Value} {y : DataW H × List MemPlace}
    (hf : DataW.trod enc P W 0 (fun _ => true) true fuel t [v] = some y) :
    ∃ xs : List (List UInt8), Sl W v (xs.map fun l => Value.string ⟨l.toArray⟩) ∧ (∀ x ∈ xs, x.length ≤ maxLen) ∧ xs.length ≤ maxLen := by
  rcases open_strings ht he hc hf with ⟨hcs, _⟩ | ⟨a, len, cap, ss, hcs, _, hl, hm, hz, _, hcell, hws⟩
  · simp at hcs
    subst hcs
    exact ⟨[], Sl.nil W, by simp, by simp⟩
  · simp at hcs
    subst hcs
    simp only [if_true] at hz
    refine ⟨(ss.map (fun s => s.data.toList)).take len, ?_, fun x hx => ?_, by rw [List.length_take, List.length_map]; omega⟩
    · rw [List.map_take]
      refine Sl.args (by rw [List.length_map, List.length_map]; omega) rfl (fun i u hi => ?_)
      rw [List.getElem?_map, List.getElem?_map] at hi
      cases hzi : ss[i]? with
      | none => rw [hzi] at hi; cases hi
      | some z =>
        rw [hzi] at hi
        obtain ⟨hil, hze⟩ := List.getElem?_eq_some_iff.1 hzi
        have := hcell i hil
        rw [this, ← hi]
        simp [List.getD, hzi]
    · obtain ⟨s, hs, rfl⟩ := List.mem_map.1 (List.mem_of_mem_take hx)
      have := hws s hs
      rw [Array.length_toList]
      exact this

/-- An argument of type []string. -/
theorem strs_arg {t e : TypeId} (ht : P.underlying t = some (.slice e)) (he : P.underlying e = some .string) (hc : P.cellsOf e = 1) {base : Nat} {v : Value} {d : DataW H} {p : List MemPlace}
    (hval : Value.okWide P W .any base t v) (hd : DataW.Trod enc P W 0 (fun _ => true) true t v d p) :
    ∃ xs : List (List UInt8), Sl W v (xs.map fun l => Value.string ⟨l.toArray⟩) ∧ (∀ x ∈ xs, x.length ≤ maxLen) ∧ xs.length ≤ maxLen := by
  obtain ⟨a0, len, cap, rfl⟩ := okWide_slice ht hval
  obtain ⟨fuel, hf⟩ := hd
  exact strs_field ht he hc (by simpa [Value.cells] using hf)

/-- A struct by value, of fields of one cell each: its cells, field by field. -/
theorem agg_fields {t : TypeId} {fs : Array Field} (hs : P.underlying t = some (.struct fs)) (hone : Deep.oneCellFields P fs = true) (hC : P.cellsOf t = fs.size) {r : Reach} {base : Nat} {v : Value} {d : DataW H} {p : List MemPlace}
    (hval : Value.okWide P W r base t v) (hd : DataW.Trod enc P W 0 (fun _ => true) true t v d p) :
    ∃ cs : List Value, v = .agg cs.toArray ∧ cs.length = fs.size ∧ ∃ n, ∀ (j : Nat) (f : Field), fs[j]? = some f → ∃ c y, cs[j]? = some c ∧ DataW.trod enc P W 0 (fun _ => true) true n f.type [c] = some y := by
  obtain ⟨cs, rfl, hsz⟩ := okWide_struct hs hval
  have hlen : cs.toList.length = fs.size := by rw [Array.length_toList]; exact hsz.trans hC
  refine ⟨cs.toList, by simp, hlen, ?_⟩
  obtain ⟨fuel, hf⟩ := hd
  obtain ⟨xs, n, _, _, _, hxl, hg⟩ := DataW.trod_struct hs hf
  refine ⟨n, fun j f hj => ?_⟩
  obtain ⟨ho, hk⟩ := Deep.hone_of hone j f hj
  have hjl : j < fs.size := (Array.getElem?_eq_some_iff.1 hj).1
  have h1 := hg j f hj
  rw [ho, hk] at h1
  have hcj : cs.toList[j]? = some (cs.toList[j]'(by omega)) := List.getElem?_eq_getElem (by omega)
  have hone1 : (Value.agg cs).cells.toList.drop j = cs.toList[j]'(by omega) :: cs.toList.drop (j + 1) := List.drop_eq_getElem_cons (by omega)
  rw [hone1] at h1
  exact ⟨_, xs[j]'(by omega), hcj, h1.trans (List.getElem?_eq_getElem (by omega))⟩

end
end Go.Proofs.YtebglkpejdoggaaGreat.K

namespace Go.Proofs.YtebglkpejdoggaaGreat.K
open Go.ChangeShapes Go.WideShapes Go.ChangeAt Go.RowKit
set_option linter.unusedVariables false

section
variable {H : Type} {enc : TypeId × Value → H} {P : Program} {W : World}

theorem slice_cap {t e : TypeId} (ht : P.underlying t = some (.slice e)) {base : Nat} {v : Value} {d : DataW H} {p : List MemPlace}
    (hval : Value.okWide P W .any base t v) (hd : DataW.Trod enc P W 0 (fun _ => true) true t v d p) : ∃ a len cap, v = .slice a len cap ∧ len ≤ cap ∧ cap ≤ maxLen := by
  obtain ⟨a0, len, cap, rfl⟩ := okWide_slice ht hval
  obtain ⟨fuel, hf⟩ := hd
  have hf' : DataW.trod enc P W 0 (fun _ => true) true fuel t [.slice a0 len cap] = some (d, p) := by simpa [Value.cells] using hf
  rcases Go.Deep.open_slice ht hf' with ⟨hcs, _⟩ | ⟨a', len', cap', m, n, D, Pl, hcs, _, h1, h2, _⟩
  · simp at hcs
    obtain ⟨rfl, rfl, rfl⟩ := hcs
    exact ⟨none, 0, 0, rfl, Nat.le_refl _, Nat.zero_le _⟩
  · simp at hcs
    obtain ⟨rfl, rfl, rfl⟩ := hcs
    exact ⟨_, _, _, rfl, h1, h2⟩

theorem weights_all {e : TypeId} {b : List UInt8} : ∀ {l : List (DataW H)}, (.lit (.string b) : DataW H) ∈ l → b.length ∈ DataW.weightsAll P e l
  | d :: r, h => by
    simp only [DataW.weightsAll, List.mem_append]
    rcases List.mem_cons.1 h with rfl | h
    · left; simp [DataW.weights]
    · right; exact weights_all h
  | [], h => by cases h

/-- An argument of type []string: none of its texts is longer than memory may be. -/
theorem strs_sized {t e : TypeId} (ht : P.underlying t = some (.slice e)) (he : P.underlying e = some .string) (hc : P.cellsOf e = 1) {base : Nat} {v : Value} {d : DataW H} {p : List MemPlace}
    (hval : Value.okWide P W .any base t v) (hd : DataW.Trod enc P W 0 (fun _ => true) true t v d p) {ts : List TypeId} {ds : List (DataW H)} {j : Nat} (hts : ts[j]? = some t) (hds : ds[j]? = some d)
    (hsz : (DataW.weightsEach P ts ds).all (· ≤ reachBytes) = true) :
    ∃ xs : List (List UInt8), Sl W v (xs.map fun l => Value.string ⟨l.toArray⟩) ∧ (∀ x ∈ xs, x.length ≤ reachBytes) ∧ xs.length ≤ maxLen := by
  obtain ⟨a0, len, cap, rfl⟩ := okWide_slice ht hval
  obtain ⟨fuel, hf0⟩ := hd
  have hf : DataW.trod enc P W 0 (fun _ => true) true fuel t [.slice a0 len cap] = some (d, p) := by simpa [Value.cells] using hf0
  rcases open_strings ht he hc hf with ⟨hcs, _⟩ | ⟨a, len, cap, ss, hcs, _, hl, hm, hz, hx, hcell, hws⟩
  · simp at hcs
    obtain ⟨rfl, rfl, rfl⟩ := hcs
    exact ⟨[], Sl.nil W, by simp, by simp⟩
  · simp at hcs
    obtain ⟨rfl, rfl, rfl⟩ := hcs
    simp only [if_true] at hz
    refine ⟨(ss.map (fun s => s.data.toList)).take len, ?_, fun x hx' => ?_, by rw [List.length_take, List.length_map]; omega⟩
    · rw [List.map_take]
      refine Sl.args (by rw [List.length_map, List.length_map]; omega) rfl (fun i u hi => ?_)
      rw [List.getElem?_map, List.getElem?_map] at hi
      cases hzi : ss[i]? with
      | none => rw [hzi] at hi; cases hi
      | some z =>
        rw [hzi] at hi
        obtain ⟨hil, hze⟩ := List.getElem?_eq_some_iff.1 hzi
        have := hcell i hil
        rw [this, ← hi]
        simp [List.getD, hzi]
    · rw [← List.map_take] at hx'
      obtain ⟨s, hs, rfl⟩ := List.mem_map.1 hx'
      have hd : d = .slice (strs (ss.take len)) (strs (ss.drop len)) := by cases hx; rfl
      have hm : (.lit (.string s.data.toList) : DataW H) ∈ strs (ss.take len) := List.mem_map.2 ⟨s, hs, rfl⟩
      have h := List.all_eq_true.1 hsz _ (DataW.weights_mem_each hts hds s.data.toList.length (by
        rw [hd]
        unfold DataW.weights
        rw [ht]
        simp only [List.mem_cons, List.mem_append]
        right; left
        exact weights_all hm))
      simpa using h
end
end Go.Proofs.YtebglkpejdoggaaGreat.K
