/-
  Layer 10, the document's answers: what may be laid (commands, records), and the bytes of numbers, lists and texts.
  Layer 10, the document's answers: which commands, events, records and states may be laid.
  Layer 10, the document's answers: the bytes of commands, events and records.
  Layer 10, the document's answers: the bytes of records.
-/
import Derived.Test.YtebglkpejdoggaaGreatP10Mem
import Derived.Deep.QuietTactic
import Derived.BigQuiet
import Derived.Deep.DeepCutAuto
import Derived.Deep.RegionHeld3
import Derived.Deep.RegionHeldLaw
namespace Go.Proofs.YtebglkpejdoggaaGreat.C10
open Go Go.RowKit Go.Proofs Go.Proofs.YtebglkpejdoggaaGreat.B Go.Proofs.YtebglkpejdoggaaGreat.K Go.Proofs.YtebglkpejdoggaaGreat.P8
set_option linter.unusedVariables false
set_option maxRecDepth 100000

theorem add_str (a b : List UInt8) (h : a.length + b.length ≤ 9223372036854775807) : ∀ W, (Op.stringOp .add (str a) (str b)).run Tryz.prog W = .ok (.string (str (a ++ b))) W := fun W => by
  rw [run_string_add_sum W _ _ (by rw [str_size, str_size]; omega), ← str_append]

theorem within_any (n a b : Int) (w : World) : Calls Tryz.prog 45 #[.int .i64 n, .int .i64 a, .int .i64 b] w fun e w' => e = .returned (.bool (inn n a b)) ∧ w = w' := by
  by_cases h1 : a ≤ n
  · by_cases h2 : n ≤ b
    · have hv : inn n a b = true := by unfold inn; simp [h1, h2]
      rw [hv]; clear hv
      go_enter Tryz.func45, Tryz.ntmps45
      go_wp2_with fail
      go_ret
      exact ⟨rfl, rfl⟩
    · have hv : inn n a b = false := by unfold inn; simp [h1, h2]
      rw [hv]; clear hv
      go_enter Tryz.func45, Tryz.ntmps45
      go_wp2_with fail
      go_ret
      exact ⟨rfl, rfl⟩
  · have hv : inn n a b = false := by unfold inn; simp [h1]
    rw [hv]; clear hv
    go_enter Tryz.func45, Tryz.ntmps45
    go_wp2_with fail
    go_ret
    exact ⟨rfl, rfl⟩

theorem all_drop {X : Type} {m : List X} {x : X} {K : Nat} (f : X → Bool) (h : m[K]? = some x) : (m.drop K).all f = (f x && (m.drop (K + 1)).all f) := by
  obtain ⟨hlt, rfl⟩ := List.getElem?_eq_some_iff.1 h
  rw [List.drop_eq_getElem_cons hlt, List.all_cons]

set_option maxHeartbeats 1000000 in
theorem values_any (L : Low) (l : List Int) (most : Nat) (v : Value) (w : World) (h : SlN w v l) (hn : l.length ≤ 4611686018427387904) :
    Calls Tryz.prog 88 #[v, .int .i64 (most : Int)] w fun e w' => e = .returned (.bool (valsP l most)) ∧ w = w' := by
  obtain ⟨a, cap, rfl, hc⟩ := h.open
  obtain ⟨N, hN⟩ : ∃ N, l.length = N := ⟨_, rfl⟩
  have hv : valsP l most = ((l.drop 0).all valP && decide (N ≤ most)) := by unfold valsP; rw [hN]; rfl
  have HC := Lib.hid hc
  have HN := Lib.hid hN
  rw [hN] at hn ⊢
  obtain ⟨r, hr⟩ : ∃ r, valsP l most = r := ⟨_, rfl⟩
  rw [hr] at hv ⊢
  have HV := Lib.hid hv
  clear hc h hN hv hr
  go_enter Tryz.func88, Tryz.ntmps88
  go_wp2_with fail
  go_loopw [5] (fun i wr => ∃ K : Nat, i = .int .i64 (K : Int) ∧ K ≤ N ∧ Hid (r = ((l.drop K).all valP && decide (N ≤ most))) ∧ wr = w) (fun i _ => N - (intOf i).toNat)
  case atStart => exact ⟨0, rfl, Nat.zero_le _, HV, rfl⟩
  case round =>
    obtain ⟨K, rfl, hK, HJ, rfl⟩ := hrel
    by_cases hlt : K < N
    · have hltI : (K : Int) < (N : Int) := by omega
      have hk0 : 0 ≤ (K : Int) := by omega
      have hw1 : IntKind.i64.wrap ((K : Int) + 1) = (K : Int) + 1 := IntWalk.i64_in _ (by omega)
      obtain ⟨x, hx⟩ : ∃ x, l[K]? = some x := ⟨_, List.getElem?_eq_getElem (by rw [HN.out]; exact hlt)⟩
      obtain ⟨b, off, rfl, hcell⟩ := HC.out K x hx
      have hd := HJ.out
      rw [all_drop _ hx] at hd
      have HP := Lib.hid (fun W => L.value x W)
      obtain ⟨p, hp⟩ : ∃ p, valP x = p := ⟨_, rfl⟩
      rw [hp] at HP hd
      have HD := Lib.hid hd
      clear hd hp hx
      cases p with
      | true =>
        go_wp2_with (go_at_call 119; refine (HP.out _).mono ?_; rintro _ w1 ⟨rfl, rfl⟩)
        go_roundw
        case rel => exact ⟨K + 1, by go_num, by omega, HD, by first | rfl | trivial⟩
        case measure => simp [intOf]; omega
      | false =>
        go_wp2_with (go_at_call 119; refine (HP.out _).mono ?_; rintro _ w1 ⟨rfl, rfl⟩)
        go_ret
        exact ⟨by rw [HD.out]; rfl, by first | rfl | trivial⟩
    · have hltI : ¬ (K : Int) < (N : Int) := by omega
      have hd := HJ.out
      rw [List.drop_of_length_le (i := K) (by rw [HN.out]; omega)] at hd
      have HD := Lib.hid (show r = decide (N ≤ most) by rw [hd, List.all_nil, Bool.true_and])
      clear hd
      go_wp2_with fail
      go_ret
      exact ⟨by rw [HD.out]; rfl, by first | rfl | trivial⟩

theorem flat_take {X : Type} (f : X → List UInt8) {m : List X} {x : X} {K : Nat} (h : m[K]? = some x) : (m.take (K + 1)).flatMap f = (m.take K).flatMap f ++ f x := by
  rw [List.take_add_one, List.flatMap_append, h]
  simp

set_option maxHeartbeats 1000000 in
theorem numbers_any (L : Low) (l : List Int) (v : Value) (w : World) (h : SlN w v l) (hw : NsWf l) :
    Calls Tryz.prog 43 #[v] w fun e w' => e = .returned (.string (str (numsL l))) ∧ Below w.heap.size w w' := by
  obtain ⟨a, cap, rfl, hc⟩ := h.open
  obtain ⟨N, hN⟩ : ∃ N, l.length = N := ⟨_, rfl⟩
  have HC := Lib.hid hc
  have HN := Lib.hid hN
  have HW := Lib.hid hw
  have hn : N ≤ 17592186044416 := by rw [← hN]; exact hw.2
  rw [hN]
  clear hc h hN hw
  go_enter Tryz.func43, Tryz.ntmps43
  go_wp2_with fail
  go_loopw [3, 4] (fun o i wr => ∃ K : Nat, i = .int .i64 (K : Int) ∧ K ≤ N ∧ o = .string (str (numsL (l.take K))) ∧ Hid (Below w.heap.size w wr)) (fun _ i _ => N - (intOf i).toNat)
  case atStart => exact ⟨0, rfl, Nat.zero_le _, rfl, Lib.hid (Below.refl _ _)⟩
  case round =>
    obtain ⟨K, rfl, hK, rfl, HB⟩ := hrel
    by_cases hlt : K < N
    · have hltI : (K : Int) < (N : Int) := by omega
      have hk0 : 0 ≤ (K : Int) := by omega
      have hw1 : IntKind.i64.wrap ((K : Int) + 1) = (K : Int) + 1 := IntWalk.i64_in _ (by omega)
      obtain ⟨x, hx⟩ : ∃ x, l[K]? = some x := ⟨_, List.getElem?_eq_getElem (by rw [HN.out]; exact hlt)⟩
      obtain ⟨b, off, rfl, hcell⟩ := HC.out K x hx
      have hc1 := kept_cell HB.out hcell
      have hxw := HW.out.1 x (List.mem_of_getElem? hx)
      have HP := Lib.hid (fun W => L.number x W hxw)
      have hl1 := numsL_len (l.take K) fun y hy => HW.out.1 y (List.mem_of_mem_take hy)
      have hl2 := num_len x hxw
      rw [List.length_take] at hl1
      have HD := Lib.hid (show numsL (l.take (K + 1)) = numsL (l.take K) ++ num x from flat_take num hx)
      have e1 := add_str (numsL (l.take K)) (num x) (by omega)
      generalize numsL (l.take K) = T at e1 HD
      generalize num x = X at e1 HD HP
      clear hl1 hl2 hx hxw hcell
      go_wp2_with (go_at_call 41; refine (HP.out _).mono ?_; rintro _ w1 ⟨rfl, hb1⟩; have HB1 := Lib.hid (HB.out.trans (hb1.mono HB.out.size)); clear hb1)
      go_roundw
      case rel => exact ⟨K + 1, by go_num, by omega, by rw [HD.out], HB1⟩
      case measure => simp [intOf]; omega
    · have hltI : ¬ (K : Int) < (N : Int) := by omega
      have hd : numsL (l.take K) = numsL l := by rw [List.take_of_length_le (by rw [HN.out]; omega)]
      rw [hd]
      go_wp2_with fail
      go_ret
      exact ⟨rfl, HB.out⟩

set_option maxHeartbeats 1000000 in
theorem list_any (L : Low) (l : List Int) (v : Value) (w : World) (h : SlN w v l) (hw : NsWf l) :
    Calls Tryz.prog 44 #[v] w fun e w' => e = .returned (.string (str (listL l))) ∧ Below w.heap.size w w' := by
  have HN := Lib.hid (fun W (hb : Below w.heap.size w W) => numbers_any L l v W (h.below hb) hw)
  have H1 := Lib.hid (fun W => L.number (l.length : Int) W (i64_len (by have := hw.2; omega)))
  have hl1 := numsL_len l hw.1
  have hl2 := num_len (l.length : Int) (i64_len (by have := hw.2; omega))
  have hn := hw.2
  have e1 := add_str (num (l.length : Int)) (numsL l) (by omega)
  have HD := Lib.hid (show listL l = num (l.length : Int) ++ numsL l from rfl)
  generalize listL l = R at HD ⊢
  generalize numsL l = T at e1 HD HN
  generalize num (l.length : Int) = X at e1 HD H1
  obtain ⟨a, cap, rfl, hc⟩ := h.open
  obtain ⟨N, hN⟩ : ∃ N, l.length = N := ⟨_, rfl⟩
  rw [hN] at HN H1 hn ⊢
  clear hl1 hl2 hc hN h hw
  go_enter Tryz.func44, Tryz.ntmps44
  go_wp2_with fail
  refine (H1.out _).mono ?_
  rintro _ w1 ⟨rfl, hb1⟩
  go_wp2_with fail
  refine (HN.out _ hb1).mono ?_
  rintro _ w2 ⟨rfl, hb2⟩
  have hb := hb1.trans (hb2.mono hb1.size)
  go_wp2_with fail
  go_ret
  exact ⟨by rw [HD.out]; rfl, hb⟩

set_option maxHeartbeats 1000000 in
theorem text_any (L : Low) (s : List UInt8) (w : World) (hs : TxWf s) :
    Calls Tryz.prog 42 #[.string (str s)] w fun e w' => e = .returned (.string (str (textL s))) ∧ Below w.heap.size w w' := by
  have H1 := Lib.hid (fun W => L.number (s.length : Int) W (i64_len hs))
  have hl2 := num_len (s.length : Int) (i64_len hs)
  unfold TxWf at hs
  have e1 := add_str (num (s.length : Int)) s (by omega)
  have HD := Lib.hid (show textL s = num (s.length : Int) ++ s from rfl)
  have hsz : (str s).size = s.length := str_size s
  generalize textL s = R at HD ⊢
  generalize num (s.length : Int) = X at e1 HD H1
  obtain ⟨N, hN⟩ : ∃ N, s.length = N := ⟨_, rfl⟩
  rw [hN] at H1 hsz hs
  clear hl2 hN
  go_enter Tryz.func42, Tryz.ntmps42
  go_wp2_with fail
  refine (H1.out _).mono ?_
  rintro _ w1 ⟨rfl, hb1⟩
  go_wp2_with fail
  go_ret
  exact ⟨by rw [HD.out]; rfl, hb1⟩
end Go.Proofs.YtebglkpejdoggaaGreat.C10

namespace Go.Proofs.YtebglkpejdoggaaGreat.C10
open Go Go.RowKit Go.Proofs Go.Proofs.YtebglkpejdoggaaGreat.B Go.Proofs.YtebglkpejdoggaaGreat.K Go.Proofs.YtebglkpejdoggaaGreat.P8
set_option linter.unusedVariables false
set_option maxRecDepth 100000

theorem ret_b {a b : Bool} (h : a = b) : Ending.returned (.bool a) = .returned (.bool b) := by rw [h]

set_option maxHeartbeats 2000000 in
theorem state_any (L : Low) (c : St) (u : Value) (w : World) (h : SlN w u c.vars) (hw : StWf c) :
    Calls Tryz.prog 39 #[.agg #[.int .i64 c.pos, .int .i64 c.ver, u]] w fun e w' => e = .returned (.bool (stP c)) ∧ Below w.heap.size w w' := by
  obtain ⟨n0, n1, ar⟩ := c
  obtain ⟨hw0, hw1, hw4⟩ := hw
  dsimp only at h hw0 hw1 hw4 ⊢
  obtain ⟨W0, hW0⟩ : ∃ W0, w.alloc (.cells #[.int .i64 n0, .int .i64 n1, u] 71) = W0 := ⟨_, rfl⟩
  have hB0 : Below w.heap.size w W0 := by rw [← hW0]; exact below_alloc _ _
  have k0 : W0.cell? ⟨w.heap.size, 0, none⟩ = some (.int .i64 n0) := by rw [← hW0]; exact alloc_cell w [_, _, _] _ 0 _ rfl
  have k1 : W0.cell? ⟨w.heap.size, 1, none⟩ = some (.int .i64 n1) := by rw [← hW0]; exact alloc_cell w [_, _, _] _ 1 _ rfl
  have k2 : W0.cell? ⟨w.heap.size, 2, none⟩ = some u := by rw [← hW0]; exact alloc_cell w [_, _, _] _ 2 _ rfl
  have H1 := Lib.hid (fun W => within_any n0 0 7 W)
  have H2 := Lib.hid (fun W => within_any n1 0 1099511627776 W)
  have H4 := Lib.hid (fun W (hb : Below w.heap.size w W) => values_any L ar 6 u W (h.below hb) (by have := hw4.2; omega))
  have hp : stP ⟨n0, n1, ar⟩ = (inn n0 0 7 && (inn n1 0 1099511627776 && valsP ar 6)) := rfl
  rw [hp]
  obtain ⟨b0, e0⟩ : ∃ b, inn n0 0 7 = b := ⟨_, rfl⟩
  obtain ⟨b1, e1⟩ : ∃ b, inn n1 0 1099511627776 = b := ⟨_, rfl⟩
  obtain ⟨b2, e2⟩ : ∃ b, valsP ar 6 = b := ⟨_, rfl⟩
  rw [e0] at H1; rw [e1] at H2; rw [e2] at H4
  rw [e0, e1, e2]
  have HB0 := Lib.hid hB0
  clear e0 e1 e2 hp hw0 hw1 hw4 h hB0
  go_enter Tryz.func39, Tryz.ntmps39
  go_wp2_with fail
  refine (H1.out _).mono ?_
  rintro _ w2 ⟨rfl, rfl⟩
  cases b0 with
  | false =>
    go_wp2_with fail
    go_ret
    exact ⟨rfl, HB0.out⟩
  | true =>
    go_wp2_with fail
    refine (H2.out _).mono ?_
    rintro _ w2 ⟨rfl, rfl⟩
    cases b1 with
    | false =>
      go_wp2_with fail
      go_ret
      exact ⟨rfl, HB0.out⟩
    | true =>
      go_wp2_with fail
      refine (H4.out _ HB0.out).mono ?_
      rintro _ w2 ⟨rfl, rfl⟩
      go_wp2_with fail
      go_ret
      exact ⟨rfl, HB0.out⟩
end Go.Proofs.YtebglkpejdoggaaGreat.C10

namespace Go.Proofs.YtebglkpejdoggaaGreat.C10
open Go Go.RowKit Go.Proofs Go.Proofs.YtebglkpejdoggaaGreat.B Go.Proofs.YtebglkpejdoggaaGreat.K Go.Proofs.YtebglkpejdoggaaGreat.P8
set_option linter.unusedVariables false
set_option maxRecDepth 100000

theorem sln_built (W : World) (l : List Int) (cur : Array Value) (T : TypeId) (n cap : Nat) (hn : l.length = n) (hc : cur.toList = l.map fun n => .int .i64 n) : SlN (W.alloc (.cells cur T)) (.slice (some ⟨W.heap.size, 0, none⟩) n cap) l := by
  subst hn
  have h := Sl.row (w := W.alloc (.cells cur T)) (g := W.heap.size) (cap := cap) (xs := l.map fun n => Value.int .i64 n) (heap_alloc_at W _) (by rw [hc, List.take_length])
  rw [List.length_map] at h
  exact h

theorem layEvs_go (l : List Ev) (K : Nat) (x : Ev) (h : l[K]? = some x) : (l.take (K + 1)).flatMap layEv = (l.take K).flatMap layEv ++ num x.pos ++ listL x.vars := by
  rw [flat_take layEv h, List.append_assoc]; rfl
/-- A bound of what lists come to. -/
theorem flat_len {X : Type} (f : X → List UInt8) (c : Nat) : ∀ (l : List X), (∀ x ∈ l, (f x).length ≤ c) → (l.flatMap f).length ≤ c * l.length
  | [], _ => Nat.le_refl _
  | x :: l, h => by
    rw [List.flatMap_cons, List.length_append, List.length_cons, Nat.mul_succ]
    have h1 := h x (List.mem_cons_self ..)
    have h2 := flat_len f c l fun y hy => h y (List.mem_cons_of_mem _ hy)
    omega
theorem layEv_len (x : Ev) (h : EvWf x) : (layEv x).length ≤ 200000000000000 := by
  unfold layEv
  rw [List.length_append]
  have h1 := num_len x.pos h.1
  have h2 := listL_len x.vars h.2
  have h3 := h.2.2
  omega

end Go.Proofs.YtebglkpejdoggaaGreat.C10

namespace Go.Proofs.YtebglkpejdoggaaGreat.C10
open Go Go.RowKit Go.Proofs Go.Proofs.YtebglkpejdoggaaGreat.B Go.Proofs.YtebglkpejdoggaaGreat.K Go.Proofs.YtebglkpejdoggaaGreat.P8
set_option linter.unusedVariables false
set_option maxRecDepth 100000

theorem layEvs_len (l : List Ev) (h : EvsWf l) (hl : l.length ≤ 40000) : (layEvs l).length ≤ 8000000000000000010 := by
  unfold layEvs
  rw [List.length_append]
  have h1 := num_len (l.length : Int) ⟨by omega, by omega⟩
  have h2 := flat_len layEv 200000000000000 l fun y hy => layEv_len y (h.1 y hy)
  omega

end Go.Proofs.YtebglkpejdoggaaGreat.C10
