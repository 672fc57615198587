/-
  Layer 10, the document's answers: what may be laid (commands, records), and the bytes of numbers, lists and texts.
  Layer 10, the document's answers: which commands, events, records and states may be laid.
  Layer 10, the document's answers: the bytes of commands, events and records.
-/
import Derived.Test.YtebglkpejdoggaaP10Mem
import Derived.Deep.QuietTactic
import Derived.BigQuiet
import Derived.Deep.DeepCutAuto
import Derived.Deep.RegionHeld3
import Derived.Deep.RegionHeldLaw
namespace Go.Proofs.Ytebglkpejdoggaa.C10
open Go Go.RowKit Go.Proofs Go.Proofs.Ytebglkpejdoggaa.B Go.Proofs.Ytebglkpejdoggaa.K Go.Proofs.Ytebglkpejdoggaa.P8
set_option linter.unusedVariables false
set_option maxRecDepth 100000

theorem add_str (a b : List UInt8) (h : a.length + b.length ≤ 9223372036854775807) : ∀ W, (Op.stringOp .add (str a) (str b)).run Try.prog W = .ok (.string (str (a ++ b))) W := fun W => by
  rw [run_string_add_sum W _ _ (by rw [str_size, str_size]; omega), ← str_append]

theorem within_any (n a b : Int) (w : World) : Calls Try.prog 27 #[.int .i64 n, .int .i64 a, .int .i64 b] w fun e w' => e = .returned (.bool (inn n a b)) ∧ w = w' := by
  by_cases h1 : a ≤ n
  · by_cases h2 : n ≤ b
    · have hv : inn n a b = true := by unfold inn; simp [h1, h2]
      rw [hv]; clear hv
      go_enter Try.func27, Try.ntmps27
      go_wp2_with fail
      go_ret
      exact ⟨rfl, rfl⟩
    · have hv : inn n a b = false := by unfold inn; simp [h1, h2]
      rw [hv]; clear hv
      go_enter Try.func27, Try.ntmps27
      go_wp2_with fail
      go_ret
      exact ⟨rfl, rfl⟩
  · have hv : inn n a b = false := by unfold inn; simp [h1]
    rw [hv]; clear hv
    go_enter Try.func27, Try.ntmps27
    go_wp2_with fail
    go_ret
    exact ⟨rfl, rfl⟩

theorem all_drop {X : Type} {m : List X} {x : X} {K : Nat} (f : X → Bool) (h : m[K]? = some x) : (m.drop K).all f = (f x && (m.drop (K + 1)).all f) := by
  obtain ⟨hlt, rfl⟩ := List.getElem?_eq_some_iff.1 h
  rw [List.drop_eq_getElem_cons hlt, List.all_cons]

set_option maxHeartbeats 1000000 in
theorem values_any (L : Low) (l : List Int) (most : Nat) (v : Value) (w : World) (h : SlN w v l) (hn : l.length ≤ 4611686018427387904) :
    Calls Try.prog 28 #[v, .int .i64 (most : Int)] w fun e w' => e = .returned (.bool (valsP l most)) ∧ w = w' := by
  obtain ⟨a, cap, rfl, hc⟩ := h.open
  obtain ⟨N, hN⟩ : ∃ N, l.length = N := ⟨_, rfl⟩
  have hv : valsP l most = ((l.drop 0).all valP && decide (N ≤ most)) := by unfold valsP; rw [hN]; rfl
  have HC := Lib.hid hc
  have HN := Lib.hid hN
  rw [hN] at hn ⊢
  obtain ⟨r, hr⟩ : ∃ r, valsP l most = r := ⟨_, rfl⟩
  rw [hr] at hv ⊢
  have HV := Lib.hid hv
  clear hc h hN hv hr
  go_enter Try.func28, Try.ntmps28
  go_wp2_with fail
  go_loopw [5] (fun i wr => ∃ K : Nat, i = .int .i64 (K : Int) ∧ K ≤ N ∧ Hid (r = ((l.drop K).all valP && decide (N ≤ most))) ∧ wr = w) (fun i _ => N - (intOf i).toNat)
  case atStart => exact ⟨0, rfl, Nat.zero_le _, HV, rfl⟩
  case round =>
    obtain ⟨K, rfl, hK, HJ, rfl⟩ := hrel
    by_cases hlt : K < N
    · have hltI : (K : Int) < (N : Int) := by omega
      have hk0 : 0 ≤ (K : Int) := by omega
      have hw1 : IntKind.i64.wrap ((K : Int) + 1) = (K : Int) + 1 := IntWalk.i64_in _ (by omega)
      obtain ⟨x, hx⟩ : ∃ x, l[K]? = some x := ⟨_, List.getElem?_eq_getElem (by rw [HN.out]; exact hlt)⟩
      obtain ⟨b, off, rfl, hcell⟩ := HC.out K x hx
      have hd := HJ.out
      rw [all_drop _ hx] at hd
      have HP := Lib.hid (fun W => L.value x W)
      obtain ⟨p, hp⟩ : ∃ p, valP x = p := ⟨_, rfl⟩
      rw [hp] at HP hd
      have HD := Lib.hid hd
      clear hd hp hx
      cases p with
      | true =>
        go_wp2_with (go_at_call 47; refine (HP.out _).mono ?_; rintro _ w1 ⟨rfl, rfl⟩)
        go_roundw
        case rel => exact ⟨K + 1, by go_num, by omega, HD, by first | rfl | trivial⟩
        case measure => simp [intOf]; omega
      | false =>
        go_wp2_with (go_at_call 47; refine (HP.out _).mono ?_; rintro _ w1 ⟨rfl, rfl⟩)
        go_ret
        exact ⟨by rw [HD.out]; rfl, by first | rfl | trivial⟩
    · have hltI : ¬ (K : Int) < (N : Int) := by omega
      have hd := HJ.out
      rw [List.drop_of_length_le (i := K) (by rw [HN.out]; omega)] at hd
      have HD := Lib.hid (show r = decide (N ≤ most) by rw [hd, List.all_nil, Bool.true_and])
      clear hd
      go_wp2_with fail
      go_ret
      exact ⟨by rw [HD.out]; rfl, by first | rfl | trivial⟩

set_option maxHeartbeats 1000000 in
theorem head_any (L : Low) (c q : Int) (s : List UInt8) (w : World) (hs : TxWf s) :
    Calls Try.prog 26 #[.int .i64 c, .int .i64 q, .string (str s)] w fun e w' => e = .returned (.bool (headP c q s)) ∧ Below w.heap.size w w' := by
  have H1 := Lib.hid (fun W => within_any c 0 5 W)
  have H2 := Lib.hid (fun W => within_any q 1 1099511627776 W)
  have H3 := Lib.hid (fun W => L.stream s W (by unfold TxWf at hs; omega))
  have hh : headP c q s = (inn c 0 5 && (inn q 1 1099511627776 && streamP s)) := rfl
  rw [hh]
  clear hh
  obtain ⟨b1, e1⟩ : ∃ b, inn c 0 5 = b := ⟨_, rfl⟩
  obtain ⟨b2, e2⟩ : ∃ b, inn q 1 1099511627776 = b := ⟨_, rfl⟩
  obtain ⟨b3, e3⟩ : ∃ b, streamP s = b := ⟨_, rfl⟩
  rw [e1] at H1; rw [e2] at H2; rw [e3] at H3
  rw [e1, e2, e3]
  clear e1 e2 e3 hs
  go_enter Try.func26, Try.ntmps26
  go_wp2_with fail
  refine (H1.out _).mono ?_
  rintro _ w1 ⟨rfl, rfl⟩
  cases b1 with
  | false =>
    go_wp2_with fail
    go_ret
    exact ⟨rfl, Below.refl _ _⟩
  | true =>
    go_wp2_with fail
    refine (H2.out _).mono ?_
    rintro _ w1 ⟨rfl, rfl⟩
    cases b2 with
    | false =>
      go_wp2_with fail
      go_ret
      exact ⟨rfl, Below.refl _ _⟩
    | true =>
      go_wp2_with fail
      refine (H3.out _).mono ?_
      rintro _ w1 ⟨rfl, hb⟩
      go_wp2_with fail
      go_ret
      exact ⟨rfl, hb⟩

theorem flat_take {X : Type} (f : X → List UInt8) {m : List X} {x : X} {K : Nat} (h : m[K]? = some x) : (m.take (K + 1)).flatMap f = (m.take K).flatMap f ++ f x := by
  rw [List.take_add_one, List.flatMap_append, h]
  simp

set_option maxHeartbeats 1000000 in
theorem numbers_any (L : Low) (l : List Int) (v : Value) (w : World) (h : SlN w v l) (hw : NsWf l) :
    Calls Try.prog 29 #[v] w fun e w' => e = .returned (.string (str (numsL l))) ∧ Below w.heap.size w w' := by
  obtain ⟨a, cap, rfl, hc⟩ := h.open
  obtain ⟨N, hN⟩ : ∃ N, l.length = N := ⟨_, rfl⟩
  have HC := Lib.hid hc
  have HN := Lib.hid hN
  have HW := Lib.hid hw
  have hn : N ≤ 17592186044416 := by rw [← hN]; exact hw.2
  rw [hN]
  clear hc h hN hw
  go_enter Try.func29, Try.ntmps29
  go_wp2_with fail
  go_loopw [3, 4] (fun o i wr => ∃ K : Nat, i = .int .i64 (K : Int) ∧ K ≤ N ∧ o = .string (str (numsL (l.take K))) ∧ Hid (Below w.heap.size w wr)) (fun _ i _ => N - (intOf i).toNat)
  case atStart => exact ⟨0, rfl, Nat.zero_le _, rfl, Lib.hid (Below.refl _ _)⟩
  case round =>
    obtain ⟨K, rfl, hK, rfl, HB⟩ := hrel
    by_cases hlt : K < N
    · have hltI : (K : Int) < (N : Int) := by omega
      have hk0 : 0 ≤ (K : Int) := by omega
      have hw1 : IntKind.i64.wrap ((K : Int) + 1) = (K : Int) + 1 := IntWalk.i64_in _ (by omega)
      obtain ⟨x, hx⟩ : ∃ x, l[K]? = some x := ⟨_, List.getElem?_eq_getElem (by rw [HN.out]; exact hlt)⟩
      obtain ⟨b, off, rfl, hcell⟩ := HC.out K x hx
      have hc1 := kept_cell HB.out hcell
      have hxw := HW.out.1 x (List.mem_of_getElem? hx)
      have HP := Lib.hid (fun W => L.number x W hxw)
      have hl1 := numsL_len (l.take K) fun y hy => HW.out.1 y (List.mem_of_mem_take hy)
      have hl2 := num_len x hxw
      rw [List.length_take] at hl1
      have HD := Lib.hid (show numsL (l.take (K + 1)) = numsL (l.take K) ++ num x from flat_take num hx)
      have e1 := add_str (numsL (l.take K)) (num x) (by omega)
      generalize numsL (l.take K) = T at e1 HD
      generalize num x = X at e1 HD HP
      clear hl1 hl2 hx hxw hcell
      go_wp2_with (go_at_call 31; refine (HP.out _).mono ?_; rintro _ w1 ⟨rfl, hb1⟩; have HB1 := Lib.hid (HB.out.trans (hb1.mono HB.out.size)); clear hb1)
      go_roundw
      case rel => exact ⟨K + 1, by go_num, by omega, by rw [HD.out], HB1⟩
      case measure => simp [intOf]; omega
    · have hltI : ¬ (K : Int) < (N : Int) := by omega
      have hd : numsL (l.take K) = numsL l := by rw [List.take_of_length_le (by rw [HN.out]; omega)]
      rw [hd]
      go_wp2_with fail
      go_ret
      exact ⟨rfl, HB.out⟩

set_option maxHeartbeats 1000000 in
theorem list_any (L : Low) (l : List Int) (v : Value) (w : World) (h : SlN w v l) (hw : NsWf l) :
    Calls Try.prog 32 #[v] w fun e w' => e = .returned (.string (str (listL l))) ∧ Below w.heap.size w w' := by
  have HN := Lib.hid (fun W (hb : Below w.heap.size w W) => numbers_any L l v W (h.below hb) hw)
  have H1 := Lib.hid (fun W => L.number (l.length : Int) W (i64_len (by have := hw.2; omega)))
  have hl1 := numsL_len l hw.1
  have hl2 := num_len (l.length : Int) (i64_len (by have := hw.2; omega))
  have hn := hw.2
  have e1 := add_str (num (l.length : Int)) (numsL l) (by omega)
  have HD := Lib.hid (show listL l = num (l.length : Int) ++ numsL l from rfl)
  generalize listL l = R at HD ⊢
  generalize numsL l = T at e1 HD HN
  generalize num (l.length : Int) = X at e1 HD H1
  obtain ⟨a, cap, rfl, hc⟩ := h.open
  obtain ⟨N, hN⟩ : ∃ N, l.length = N := ⟨_, rfl⟩
  rw [hN] at HN H1 hn ⊢
  clear hl1 hl2 hc hN h hw
  go_enter Try.func32, Try.ntmps32
  go_wp2_with fail
  refine (H1.out _).mono ?_
  rintro _ w1 ⟨rfl, hb1⟩
  go_wp2_with fail
  refine (HN.out _ hb1).mono ?_
  rintro _ w2 ⟨rfl, hb2⟩
  have hb := hb1.trans (hb2.mono hb1.size)
  go_wp2_with fail
  go_ret
  exact ⟨by rw [HD.out]; rfl, hb⟩

set_option maxHeartbeats 1000000 in
theorem text_any (L : Low) (s : List UInt8) (w : World) (hs : TxWf s) :
    Calls Try.prog 30 #[.string (str s)] w fun e w' => e = .returned (.string (str (textL s))) ∧ Below w.heap.size w w' := by
  have H1 := Lib.hid (fun W => L.number (s.length : Int) W (i64_len hs))
  have hl2 := num_len (s.length : Int) (i64_len hs)
  unfold TxWf at hs
  have e1 := add_str (num (s.length : Int)) s (by omega)
  have HD := Lib.hid (show textL s = num (s.length : Int) ++ s from rfl)
  have hsz : (str s).size = s.length := str_size s
  generalize textL s = R at HD ⊢
  generalize num (s.length : Int) = X at e1 HD H1
  obtain ⟨N, hN⟩ : ∃ N, s.length = N := ⟨_, rfl⟩
  rw [hN] at H1 hsz hs
  clear hl2 hN
  go_enter Try.func30, Try.ntmps30
  go_wp2_with fail
  refine (H1.out _).mono ?_
  rintro _ w1 ⟨rfl, hb1⟩
  go_wp2_with fail
  go_ret
  exact ⟨by rw [HD.out]; rfl, hb1⟩
end Go.Proofs.Ytebglkpejdoggaa.C10

namespace Go.Proofs.Ytebglkpejdoggaa.C10
open Go Go.RowKit Go.Proofs Go.Proofs.Ytebglkpejdoggaa.B Go.Proofs.Ytebglkpejdoggaa.K Go.Proofs.Ytebglkpejdoggaa.P8
set_option linter.unusedVariables false
set_option maxRecDepth 100000

theorem ret_b {a b : Bool} (h : a = b) : Ending.returned (.bool a) = .returned (.bool b) := by rw [h]

set_option maxHeartbeats 2000000 in
theorem cmd_any (L : Low) (c : Cm) (u : Value) (w : World) (h : SlN w u c.args) (hw : CmWf c) :
    Calls Try.prog 10 #[.agg #[.int .i64 c.client, .int .i64 c.seq, .string (str c.stream), .int .i64 c.rule, u, .int .i64 c.expect]] w fun e w' => e = .returned (.bool (cmdP c)) ∧ Below w.heap.size w w' := by
  obtain ⟨n0, n1, s, n3, ar, n5⟩ := c
  obtain ⟨hw0, hw1, hw2, hw3, hw4, hw5⟩ := hw
  dsimp only at h hw0 hw1 hw2 hw3 hw4 hw5 ⊢
  obtain ⟨W0, hW0⟩ : ∃ W0, w.alloc (.cells #[.int .i64 n0, .int .i64 n1, .string (str s), .int .i64 n3, u, .int .i64 n5] 24) = W0 := ⟨_, rfl⟩
  have hB0 : Below w.heap.size w W0 := by rw [← hW0]; exact below_alloc _ _
  have k0 : W0.cell? ⟨w.heap.size, 0, none⟩ = some (.int .i64 n0) := by rw [← hW0]; exact alloc_cell w [_, _, _, _, _, _] _ 0 _ rfl
  have k1 : W0.cell? ⟨w.heap.size, 1, none⟩ = some (.int .i64 n1) := by rw [← hW0]; exact alloc_cell w [_, _, _, _, _, _] _ 1 _ rfl
  have k2 : W0.cell? ⟨w.heap.size, 2, none⟩ = some (.string (str s)) := by rw [← hW0]; exact alloc_cell w [_, _, _, _, _, _] _ 2 _ rfl
  have k3 : W0.cell? ⟨w.heap.size, 3, none⟩ = some (.int .i64 n3) := by rw [← hW0]; exact alloc_cell w [_, _, _, _, _, _] _ 3 _ rfl
  have k4 : W0.cell? ⟨w.heap.size, 4, none⟩ = some u := by rw [← hW0]; exact alloc_cell w [_, _, _, _, _, _] _ 4 _ rfl
  have k5 : W0.cell? ⟨w.heap.size, 5, none⟩ = some (.int .i64 n5) := by rw [← hW0]; exact alloc_cell w [_, _, _, _, _, _] _ 5 _ rfl
  have HH := Lib.hid (fun W => head_any L n0 n1 s W hw2)
  have H3 := Lib.hid (fun W => within_any n3 0 11 W)
  have H4 := Lib.hid (fun W (hb : Below w.heap.size w W) => values_any L ar 4 u W (h.below hb) (by have := hw4.2; omega))
  have H5 := Lib.hid (fun W => within_any n5 (-1) 1099511627776 W)
  have hp : cmdP ⟨n0, n1, s, n3, ar, n5⟩ = (headP n0 n1 s && (inn n3 0 11 && (valsP ar 4 && inn n5 (-1) 1099511627776))) := rfl
  rw [hp]
  obtain ⟨b0, e0⟩ : ∃ b, headP n0 n1 s = b := ⟨_, rfl⟩
  obtain ⟨b1, e1⟩ : ∃ b, inn n3 0 11 = b := ⟨_, rfl⟩
  obtain ⟨b2, e2⟩ : ∃ b, valsP ar 4 = b := ⟨_, rfl⟩
  obtain ⟨b3, e3⟩ : ∃ b, inn n5 (-1) 1099511627776 = b := ⟨_, rfl⟩
  rw [e0] at HH; rw [e1] at H3; rw [e2] at H4; rw [e3] at H5
  rw [e0, e1, e2, e3]
  have HB0 := Lib.hid hB0
  clear e0 e1 e2 e3 hp hw0 hw1 hw2 hw3 hw4 hw5 h hB0
  go_enter Try.func10, Try.ntmps10
  go_wp2_with fail
  refine (HH.out _).mono ?_
  rintro _ w1 ⟨rfl, hb1⟩
  have k3 := kept_cell hb1 k3
  have k4 := kept_cell hb1 k4
  have k5 := kept_cell hb1 k5
  have HB1 := Lib.hid (HB0.out.trans (hb1.mono HB0.out.size))
  clear hb1 k0 k1 k2 hW0
  cases b0 with
  | false =>
    go_wp2_with fail
    go_ret
    exact ⟨rfl, HB1.out⟩
  | true =>
    go_wp2_with fail
    refine (H3.out _).mono ?_
    rintro _ w2 ⟨rfl, rfl⟩
    cases b1 with
    | false =>
      go_wp2_with fail
      go_ret
      exact ⟨rfl, HB1.out⟩
    | true =>
      go_wp2_with fail
      refine (H4.out _ HB1.out).mono ?_
      rintro _ w2 ⟨rfl, rfl⟩
      cases b2 with
      | false =>
        go_wp2_with fail
        go_ret
        exact ⟨rfl, HB1.out⟩
      | true =>
        go_wp2_with fail
        refine (H5.out _).mono ?_
        rintro _ w2 ⟨rfl, rfl⟩
        go_wp2_with fail
        go_ret
        exact ⟨rfl, HB1.out⟩

set_option maxHeartbeats 2000000 in
theorem events_any (L : Low) (l : List Ev) (v : Value) (w : World) (h : EvsIs w v l) (hw : EvsWf l) :
    Calls Try.prog 14 #[v] w fun e w' => e = .returned (.bool (evsP l)) ∧ w = w' := by
  obtain ⟨a, cap, rfl, hc⟩ := h.open
  obtain ⟨N, hN⟩ : ∃ N, l.length = N := ⟨_, rfl⟩
  have hv : evsP l = ((l.drop 0).all evP && decide (N ≤ 3)) := by unfold evsP; rw [hN]; rfl
  have HC := Lib.hid hc
  have HN := Lib.hid hN
  have HW := Lib.hid hw
  have hn : N ≤ 17592186044416 := by rw [← hN]; exact hw.2
  rw [hN]
  obtain ⟨r, hr⟩ : ∃ r, evsP l = r := ⟨_, rfl⟩
  rw [hr] at hv ⊢
  have HV := Lib.hid hv
  clear hc h hN hv hr hw
  go_enter Try.func14, Try.ntmps14
  go_wp2_with fail
  go_loopw [3] (fun i wr => ∃ K : Nat, i = .int .i64 (K : Int) ∧ K ≤ N ∧ Hid (r = ((l.drop K).all evP && decide (N ≤ 3))) ∧ wr = w) (fun i _ => N - (intOf i).toNat)
  case atStart => exact ⟨0, rfl, Nat.zero_le _, HV, rfl⟩
  case round =>
    obtain ⟨K, rfl, hK, HJ, rfl⟩ := hrel
    by_cases hlt : K < N
    · have hltI : (K : Int) < (N : Int) := by omega
      have hk0 : 0 ≤ (K : Int) := by omega
      have hw1 : IntKind.i64.wrap ((K : Int) + 1) = (K : Int) + 1 := IntWalk.i64_in _ (by omega)
      obtain ⟨x, hx⟩ : ∃ x, l[K]? = some x := ⟨_, List.getElem?_eq_getElem (by rw [HN.out]; exact hlt)⟩
      obtain ⟨b, off, rfl, cs, -, ⟨u, rfl, hu⟩, hcell⟩ := HC.out K x hx
      have k0 : wr.cell? ⟨b, off + K * 2, none⟩ = some (.int .i64 x.pos) := hcell 0 _ rfl
      have k1 : wr.cell? ⟨b, off + K * 2 + 1, none⟩ = some u := hcell 1 _ rfl
      have hd := HJ.out
      rw [all_drop _ hx] at hd
      have hxw := HW.out.1 x (List.mem_of_getElem? hx)
      have H1 := Lib.hid (fun W => within_any x.pos 0 7 W)
      have H2 := Lib.hid (values_any L x.vars 6 u wr hu (by have := hxw.2.2; omega))
      rw [show evP x = (inn x.pos 0 7 && valsP x.vars 6) from rfl] at hd
      obtain ⟨p, hp⟩ : ∃ p, inn x.pos 0 7 = p := ⟨_, rfl⟩
      obtain ⟨q, hq⟩ : ∃ p, valsP x.vars 6 = p := ⟨_, rfl⟩
      rw [hp] at H1 hd
      rw [hq] at H2 hd
      generalize x.pos = n0 at k0 H1
      have HD := Lib.hid hd
      clear hd hp hq hx hcell hu hxw
      cases p with
      | true =>
        cases q with
        | true =>
          go_wp2_with (first | (go_at_call 27; refine (H1.out _).mono ?_; rintro _ w1 ⟨rfl, rfl⟩) | (go_at_call 28; refine H2.out.mono ?_; rintro _ w1 ⟨rfl, rfl⟩))
          go_roundw
          case rel => exact ⟨K + 1, by go_num, by omega, HD, by first | rfl | trivial⟩
          case measure => simp [intOf]; omega
        | false =>
          go_wp2_with (first | (go_at_call 27; refine (H1.out _).mono ?_; rintro _ w1 ⟨rfl, rfl⟩) | (go_at_call 28; refine H2.out.mono ?_; rintro _ w1 ⟨rfl, rfl⟩))
          go_ret
          exact ⟨by rw [HD.out]; rfl, by first | rfl | trivial⟩
      | false =>
        go_wp2_with (first | (go_at_call 27; refine (H1.out _).mono ?_; rintro _ w1 ⟨rfl, rfl⟩) | (go_at_call 28; refine H2.out.mono ?_; rintro _ w1 ⟨rfl, rfl⟩))
        go_ret
        exact ⟨by rw [HD.out]; rfl, by first | rfl | trivial⟩
    · have hltI : ¬ (K : Int) < (N : Int) := by omega
      have hd := HJ.out
      rw [List.drop_of_length_le (i := K) (by rw [HN.out]; omega)] at hd
      have HD := Lib.hid (show r = decide ((N : Int) ≤ 3) by rw [hd, List.all_nil, Bool.true_and]; exact decide_eq_decide.2 (by omega))
      clear hd
      go_wp2_with fail
      go_ret
      exact ⟨by rw [HD.out]; rfl, by first | rfl | trivial⟩

set_option maxHeartbeats 2000000 in
theorem record_any (L : Low) (c : Rc) (u : Value) (w : World) (h : EvsIs w u c.events) (hw : RcWf c) :
    Calls Try.prog 12 #[.agg #[.int .i64 c.client, .int .i64 c.seq, .string (str c.stream), .int .i64 c.code, u]] w fun e w' => e = .returned (.bool (recP c)) ∧ Below w.heap.size w w' := by
  obtain ⟨n0, n1, s, n3, ev⟩ := c
  obtain ⟨hw0, hw1, hw2, hw3, hw4⟩ := hw
  dsimp only at h hw0 hw1 hw2 hw3 hw4 ⊢
  obtain ⟨a, cap, rfl, -⟩ := id h.open
  obtain ⟨W0, hW0⟩ : ∃ W0, w.alloc (.cells #[.int .i64 n0, .int .i64 n1, .string (str s), .int .i64 n3, .slice a ev.length cap] 27) = W0 := ⟨_, rfl⟩
  have hB0 : Below w.heap.size w W0 := by rw [← hW0]; exact below_alloc _ _
  have k0 : W0.cell? ⟨w.heap.size, 0, none⟩ = some (.int .i64 n0) := by rw [← hW0]; exact alloc_cell w [_, _, _, _, _] _ 0 _ rfl
  have k1 : W0.cell? ⟨w.heap.size, 1, none⟩ = some (.int .i64 n1) := by rw [← hW0]; exact alloc_cell w [_, _, _, _, _] _ 1 _ rfl
  have k2 : W0.cell? ⟨w.heap.size, 2, none⟩ = some (.string (str s)) := by rw [← hW0]; exact alloc_cell w [_, _, _, _, _] _ 2 _ rfl
  have k3 : W0.cell? ⟨w.heap.size, 3, none⟩ = some (.int .i64 n3) := by rw [← hW0]; exact alloc_cell w [_, _, _, _, _] _ 3 _ rfl
  have k4 : W0.cell? ⟨w.heap.size, 4, none⟩ = some (.slice a ev.length cap) := by rw [← hW0]; exact alloc_cell w [_, _, _, _, _] _ 4 _ rfl
  have HH := Lib.hid (fun W => head_any L n0 n1 s W hw2)
  have H3 := Lib.hid (fun W => within_any n3 0 63 W)
  have H4 := Lib.hid (fun W (hb : Below w.heap.size w W) => events_any L ev _ W (h.below hb) hw4)
  have hp : recP ⟨n0, n1, s, n3, ev⟩ = (headP n0 n1 s && (inn n3 0 63 && (evsP ev && (decide (ev.length = 0) || decide (n3 = 0))))) := rfl
  rw [hp]
  obtain ⟨b0, e0⟩ : ∃ b, headP n0 n1 s = b := ⟨_, rfl⟩
  obtain ⟨b1, e1⟩ : ∃ b, inn n3 0 63 = b := ⟨_, rfl⟩
  obtain ⟨b2, e2⟩ : ∃ b, evsP ev = b := ⟨_, rfl⟩
  rw [e0] at HH; rw [e1] at H3; rw [e2] at H4
  rw [e0, e1, e2]
  have HB0 := Lib.hid hB0
  obtain ⟨N, hN⟩ : ∃ N, ev.length = N := ⟨_, rfl⟩
  rw [hN] at k4 H4 hW0 ⊢
  obtain ⟨b3, e3⟩ : ∃ b, (decide (N = 0) || decide (n3 = 0)) = b := ⟨_, rfl⟩
  rw [e3]
  have E3 := Lib.hid e3
  clear e0 e1 e2 hp hw0 hw1 hw2 hw3 hw4 h hB0 hN e3
  go_enter Try.func12, Try.ntmps12
  go_wp2_with fail
  refine (HH.out _).mono ?_
  rintro _ w1 ⟨rfl, hb1⟩
  have k3 := kept_cell hb1 k3
  have k4 := kept_cell hb1 k4
  have HB1 := Lib.hid (HB0.out.trans (hb1.mono HB0.out.size))
  clear hb1 k0 k1 k2 hW0
  cases b0 with
  | false =>
    go_wp2_with fail
    go_ret
    exact ⟨rfl, HB1.out⟩
  | true =>
    go_wp2_with fail
    refine (H3.out _).mono ?_
    rintro _ w2 ⟨rfl, rfl⟩
    cases b1 with
    | false =>
      go_wp2_with fail
      go_ret
      exact ⟨rfl, HB1.out⟩
    | true =>
      go_wp2_with fail
      refine (H4.out _ HB1.out).mono ?_
      rintro _ w2 ⟨rfl, rfl⟩
      cases b2 with
      | false =>
        go_wp2_with fail
        go_ret
        exact ⟨rfl, HB1.out⟩
      | true =>
        by_cases hN0 : N = 0
        · obtain rfl : b3 = true := by rw [← E3.out, decide_eq_true hN0]; rfl
          subst hN0
          go_wp2_with fail
          go_ret
          exact ⟨rfl, HB1.out⟩
        · have hz : ((N : Int) == 0) = false := by simp; omega
          have hz2 : ¬ (N : Int) = 0 := by omega
          by_cases h3 : n3 = 0
          · obtain rfl : b3 = true := by rw [← E3.out, decide_eq_true h3, Bool.or_true]
            subst h3
            go_wp2_with fail
            go_ret
            exact ⟨rfl, HB1.out⟩
          · have hz3 : (n3 == 0) = false := beq_eq_false_iff_ne.2 h3
            obtain rfl : b3 = false := by rw [← E3.out, decide_eq_false h3, decide_eq_false hN0]; rfl
            go_wp2_with fail
            go_ret
            exact ⟨rfl, HB1.out⟩

end Go.Proofs.Ytebglkpejdoggaa.C10

namespace Go.Proofs.Ytebglkpejdoggaa.C10
open Go Go.RowKit Go.Proofs Go.Proofs.Ytebglkpejdoggaa.B Go.Proofs.Ytebglkpejdoggaa.K Go.Proofs.Ytebglkpejdoggaa.P8
set_option linter.unusedVariables false
set_option maxRecDepth 100000

theorem sln_built (W : World) (l : List Int) (cur : Array Value) (T : TypeId) (n cap : Nat) (hn : l.length = n) (hc : cur.toList = l.map fun n => .int .i64 n) : SlN (W.alloc (.cells cur T)) (.slice (some ⟨W.heap.size, 0, none⟩) n cap) l := by
  subst hn
  have h := Sl.row (w := W.alloc (.cells cur T)) (g := W.heap.size) (cap := cap) (xs := l.map fun n => Value.int .i64 n) (heap_alloc_at W _) (by rw [hc, List.take_length])
  rw [List.length_map] at h
  exact h

set_option maxHeartbeats 4000000 in
theorem layCmd_any (L : Low) (c : Cm) (u : Value) (w : World) (h : SlN w u c.args) (hw : CmWf c) :
    Calls Try.prog 11 #[.agg #[.int .i64 c.client, .int .i64 c.seq, .string (str c.stream), .int .i64 c.rule, u, .int .i64 c.expect]] w fun e w' => e = .returned (.string (str (layCmd c))) ∧ Below w.heap.size w w' := by
  obtain ⟨n0, n1, s, n3, ar, n5⟩ := c
  obtain ⟨hw0, hw1, hw2, hw3, hw4, hw5⟩ := hw
  dsimp only at h hw0 hw1 hw2 hw3 hw4 hw5 ⊢
  obtain ⟨W0, hW0⟩ : ∃ W0, w.alloc (.cells #[.int .i64 n0, .int .i64 n1, .string (str s), .int .i64 n3, u, .int .i64 n5] 24) = W0 := ⟨_, rfl⟩
  obtain ⟨g, hg⟩ : ∃ g, w.heap.size = g := ⟨_, rfl⟩
  have hB0 : Below w.heap.size w W0 := by rw [← hW0]; exact below_alloc _ _
  have k0 : W0.cell? ⟨g, 0, none⟩ = some (.int .i64 n0) := by rw [← hW0, ← hg]; exact alloc_cell w [_, _, _, _, _, _] _ 0 _ rfl
  have k1 : W0.cell? ⟨g, 1, none⟩ = some (.int .i64 n1) := by rw [← hW0, ← hg]; exact alloc_cell w [_, _, _, _, _, _] _ 1 _ rfl
  have k2 : W0.cell? ⟨g, 2, none⟩ = some (.string (str s)) := by rw [← hW0, ← hg]; exact alloc_cell w [_, _, _, _, _, _] _ 2 _ rfl
  have k3 : W0.cell? ⟨g, 3, none⟩ = some (.int .i64 n3) := by rw [← hW0, ← hg]; exact alloc_cell w [_, _, _, _, _, _] _ 3 _ rfl
  have k4 : W0.cell? ⟨g, 4, none⟩ = some u := by rw [← hW0, ← hg]; exact alloc_cell w [_, _, _, _, _, _] _ 4 _ rfl
  have k5 : W0.cell? ⟨g, 5, none⟩ = some (.int .i64 n5) := by rw [← hW0, ← hg]; exact alloc_cell w [_, _, _, _, _, _] _ 5 _ rfl
  have hl1 := numsL_len [n0, n1] (by intro x hx; simp at hx; rcases hx with rfl | rfl <;> assumption)
  have hl2 := textL_len s hw2
  have hl3 := num_len n3 hw3
  have hl4 := listL_len ar hw4
  have hl5 := num_len n5 hw5
  have hl6 := hw4.2
  unfold TxWf at hw2
  simp only [List.length_cons, List.length_nil] at hl1
  have hD : layCmd ⟨n0, n1, s, n3, ar, n5⟩ = numsL [n0, n1] ++ textL s ++ num n3 ++ listL ar ++ num n5 := rfl
  rw [hD]
  have C1 := Lib.hid (fun (W : World) => numbers_any L [n0, n1] _ _ (sln_built W [n0, n1] #[.int .i64 n0, .int .i64 n1] 3 2 2 rfl rfl) ⟨by intro x hx; simp at hx; rcases hx with rfl | rfl <;> assumption, by simp⟩)
  have C2 := Lib.hid (fun W => text_any L s W hw2)
  have C3 := Lib.hid (fun W => L.number n3 W hw3)
  have C4 := Lib.hid (fun W (hb : Below w.heap.size w W) => list_any L ar u W (h.below hb) hw4)
  have C5 := Lib.hid (fun W => L.number n5 W hw5)
  have e1 := add_str (numsL [n0, n1]) (textL s) (by omega)
  have e2 := add_str (numsL [n0, n1] ++ textL s) (num n3) (by rw [List.length_append]; omega)
  have e3 := add_str (numsL [n0, n1] ++ textL s ++ num n3) (listL ar) (by rw [List.length_append, List.length_append]; omega)
  have e4 := add_str (numsL [n0, n1] ++ textL s ++ num n3 ++ listL ar) (num n5) (by rw [List.length_append, List.length_append, List.length_append]; omega)
  generalize hX1 : numsL [n0, n1] = X1 at *
  generalize hX2 : textL s = X2 at *
  generalize hX3 : num n3 = X3 at *
  generalize hX4 : listL ar = X4 at *
  generalize hX5 : num n5 = X5 at *
  generalize hU1 : X1 ++ X2 = U1 at *
  generalize hU2 : U1 ++ X3 = U2 at *
  generalize hU3 : U2 ++ X4 = U3 at *
  generalize hU4 : U3 ++ X5 = U4 at *
  clear hX1 hX2 hX3 hX4 hX5 hU1 hU2 hU3 hU4 hl1 hl2 hl3 hl4 hl5 hl6 hD hw0 hw1 hw2 hw3 hw4 hw5 h
  have hS0 : (W0.drew.cell? ⟨g, 2, none⟩ = some (Value.string (str s)) ∧ W0.drew.cell? ⟨g, 3, none⟩ = some (Value.int .i64 n3) ∧ W0.drew.cell? ⟨g, 4, none⟩ = some u ∧ W0.drew.cell? ⟨g, 5, none⟩ = some (Value.int .i64 n5) ∧ W0.drew.cell? ⟨g, 0, none⟩ = some (Value.int .i64 n0) ∧ W0.drew.cell? ⟨g, 1, none⟩ = some (Value.int .i64 n1) ∧ Below w.heap.size w W0.drew) := ⟨k2, k3, k4, k5, k0, k1, hB0.drew⟩
  have hSA : ((W0.drew.alloc (.cells #[.int .i64 n0, .int .i64 n1] 3)).cell? ⟨g, 2, none⟩ = some (Value.string (str s)) ∧ (W0.drew.alloc (.cells #[.int .i64 n0, .int .i64 n1] 3)).cell? ⟨g, 3, none⟩ = some (Value.int .i64 n3) ∧ (W0.drew.alloc (.cells #[.int .i64 n0, .int .i64 n1] 3)).cell? ⟨g, 4, none⟩ = some u ∧ (W0.drew.alloc (.cells #[.int .i64 n0, .int .i64 n1] 3)).cell? ⟨g, 5, none⟩ = some (Value.int .i64 n5) ∧ (W0.drew.alloc (.cells #[.int .i64 n0, .int .i64 n1] 3)).cell? ⟨g, 0, none⟩ = some (Value.int .i64 n0) ∧ (W0.drew.alloc (.cells #[.int .i64 n0, .int .i64 n1] 3)).cell? ⟨g, 1, none⟩ = some (Value.int .i64 n1) ∧ Below w.heap.size w (W0.drew.alloc (.cells #[.int .i64 n0, .int .i64 n1] 3))) := ⟨cell_alloc k2, cell_alloc k3, cell_alloc k4, cell_alloc k5, cell_alloc k0, cell_alloc k1, hB0.drew.trans ((below_alloc _ _).mono hB0.size)⟩
  have G1 := Lib.hid (fun (hS : ((W0.drew.alloc (.cells #[.int .i64 n0, .int .i64 n1] 3)).cell? ⟨g, 2, none⟩ = some (Value.string (str s)) ∧ (W0.drew.alloc (.cells #[.int .i64 n0, .int .i64 n1] 3)).cell? ⟨g, 3, none⟩ = some (Value.int .i64 n3) ∧ (W0.drew.alloc (.cells #[.int .i64 n0, .int .i64 n1] 3)).cell? ⟨g, 4, none⟩ = some u ∧ (W0.drew.alloc (.cells #[.int .i64 n0, .int .i64 n1] 3)).cell? ⟨g, 5, none⟩ = some (Value.int .i64 n5) ∧ (W0.drew.alloc (.cells #[.int .i64 n0, .int .i64 n1] 3)).cell? ⟨g, 0, none⟩ = some (Value.int .i64 n0) ∧ (W0.drew.alloc (.cells #[.int .i64 n0, .int .i64 n1] 3)).cell? ⟨g, 1, none⟩ = some (Value.int .i64 n1) ∧ Below w.heap.size w (W0.drew.alloc (.cells #[.int .i64 n0, .int .i64 n1] 3)))) => (C1.out W0.drew).mono (fun e (w' : World) ⟨h1, h2⟩ => (⟨h1, kept_cell h2 hS.1, kept_cell h2 hS.2.1, kept_cell h2 hS.2.2.1, kept_cell h2 hS.2.2.2.1, kept_cell h2 hS.2.2.2.2.1, kept_cell h2 hS.2.2.2.2.2.1, hS.2.2.2.2.2.2.trans (h2.mono hS.2.2.2.2.2.2.size)⟩ : e = Ending.returned (Value.string (str X1)) ∧ (w'.cell? ⟨g, 2, none⟩ = some (Value.string (str s)) ∧ w'.cell? ⟨g, 3, none⟩ = some (Value.int .i64 n3) ∧ w'.cell? ⟨g, 4, none⟩ = some u ∧ w'.cell? ⟨g, 5, none⟩ = some (Value.int .i64 n5) ∧ w'.cell? ⟨g, 0, none⟩ = some (Value.int .i64 n0) ∧ w'.cell? ⟨g, 1, none⟩ = some (Value.int .i64 n1) ∧ Below w.heap.size w w'))))
  have G2 := Lib.hid (fun (W : World) (hS : (W.cell? ⟨g, 2, none⟩ = some (Value.string (str s)) ∧ W.cell? ⟨g, 3, none⟩ = some (Value.int .i64 n3) ∧ W.cell? ⟨g, 4, none⟩ = some u ∧ W.cell? ⟨g, 5, none⟩ = some (Value.int .i64 n5) ∧ W.cell? ⟨g, 0, none⟩ = some (Value.int .i64 n0) ∧ W.cell? ⟨g, 1, none⟩ = some (Value.int .i64 n1) ∧ Below w.heap.size w W)) => (C2.out W).mono (fun e (w' : World) ⟨h1, h2⟩ => (⟨h1, kept_cell h2 hS.1, kept_cell h2 hS.2.1, kept_cell h2 hS.2.2.1, kept_cell h2 hS.2.2.2.1, kept_cell h2 hS.2.2.2.2.1, kept_cell h2 hS.2.2.2.2.2.1, hS.2.2.2.2.2.2.trans (h2.mono hS.2.2.2.2.2.2.size)⟩ : e = Ending.returned (Value.string (str X2)) ∧ (w'.cell? ⟨g, 2, none⟩ = some (Value.string (str s)) ∧ w'.cell? ⟨g, 3, none⟩ = some (Value.int .i64 n3) ∧ w'.cell? ⟨g, 4, none⟩ = some u ∧ w'.cell? ⟨g, 5, none⟩ = some (Value.int .i64 n5) ∧ w'.cell? ⟨g, 0, none⟩ = some (Value.int .i64 n0) ∧ w'.cell? ⟨g, 1, none⟩ = some (Value.int .i64 n1) ∧ Below w.heap.size w w'))))
  have G3 := Lib.hid (fun (W : World) (hS : (W.cell? ⟨g, 2, none⟩ = some (Value.string (str s)) ∧ W.cell? ⟨g, 3, none⟩ = some (Value.int .i64 n3) ∧ W.cell? ⟨g, 4, none⟩ = some u ∧ W.cell? ⟨g, 5, none⟩ = some (Value.int .i64 n5) ∧ W.cell? ⟨g, 0, none⟩ = some (Value.int .i64 n0) ∧ W.cell? ⟨g, 1, none⟩ = some (Value.int .i64 n1) ∧ Below w.heap.size w W)) => (C3.out W).mono (fun e (w' : World) ⟨h1, h2⟩ => (⟨h1, kept_cell h2 hS.1, kept_cell h2 hS.2.1, kept_cell h2 hS.2.2.1, kept_cell h2 hS.2.2.2.1, kept_cell h2 hS.2.2.2.2.1, kept_cell h2 hS.2.2.2.2.2.1, hS.2.2.2.2.2.2.trans (h2.mono hS.2.2.2.2.2.2.size)⟩ : e = Ending.returned (Value.string (str X3)) ∧ (w'.cell? ⟨g, 2, none⟩ = some (Value.string (str s)) ∧ w'.cell? ⟨g, 3, none⟩ = some (Value.int .i64 n3) ∧ w'.cell? ⟨g, 4, none⟩ = some u ∧ w'.cell? ⟨g, 5, none⟩ = some (Value.int .i64 n5) ∧ w'.cell? ⟨g, 0, none⟩ = some (Value.int .i64 n0) ∧ w'.cell? ⟨g, 1, none⟩ = some (Value.int .i64 n1) ∧ Below w.heap.size w w'))))
  have G4 := Lib.hid (fun (W : World) (hS : (W.cell? ⟨g, 2, none⟩ = some (Value.string (str s)) ∧ W.cell? ⟨g, 3, none⟩ = some (Value.int .i64 n3) ∧ W.cell? ⟨g, 4, none⟩ = some u ∧ W.cell? ⟨g, 5, none⟩ = some (Value.int .i64 n5) ∧ W.cell? ⟨g, 0, none⟩ = some (Value.int .i64 n0) ∧ W.cell? ⟨g, 1, none⟩ = some (Value.int .i64 n1) ∧ Below w.heap.size w W)) => (C4.out W hS.2.2.2.2.2.2).mono (fun e (w' : World) ⟨h1, h2⟩ => (⟨h1, kept_cell h2 hS.1, kept_cell h2 hS.2.1, kept_cell h2 hS.2.2.1, kept_cell h2 hS.2.2.2.1, kept_cell h2 hS.2.2.2.2.1, kept_cell h2 hS.2.2.2.2.2.1, hS.2.2.2.2.2.2.trans (h2.mono hS.2.2.2.2.2.2.size)⟩ : e = Ending.returned (Value.string (str X4)) ∧ (w'.cell? ⟨g, 2, none⟩ = some (Value.string (str s)) ∧ w'.cell? ⟨g, 3, none⟩ = some (Value.int .i64 n3) ∧ w'.cell? ⟨g, 4, none⟩ = some u ∧ w'.cell? ⟨g, 5, none⟩ = some (Value.int .i64 n5) ∧ w'.cell? ⟨g, 0, none⟩ = some (Value.int .i64 n0) ∧ w'.cell? ⟨g, 1, none⟩ = some (Value.int .i64 n1) ∧ Below w.heap.size w w'))))
  have G5 := Lib.hid (fun (W : World) (hS : (W.cell? ⟨g, 2, none⟩ = some (Value.string (str s)) ∧ W.cell? ⟨g, 3, none⟩ = some (Value.int .i64 n3) ∧ W.cell? ⟨g, 4, none⟩ = some u ∧ W.cell? ⟨g, 5, none⟩ = some (Value.int .i64 n5) ∧ W.cell? ⟨g, 0, none⟩ = some (Value.int .i64 n0) ∧ W.cell? ⟨g, 1, none⟩ = some (Value.int .i64 n1) ∧ Below w.heap.size w W)) => (C5.out W).mono (fun e (w' : World) ⟨h1, h2⟩ => (⟨h1, kept_cell h2 hS.1, kept_cell h2 hS.2.1, kept_cell h2 hS.2.2.1, kept_cell h2 hS.2.2.2.1, kept_cell h2 hS.2.2.2.2.1, kept_cell h2 hS.2.2.2.2.2.1, hS.2.2.2.2.2.2.trans (h2.mono hS.2.2.2.2.2.2.size)⟩ : e = Ending.returned (Value.string (str X5)) ∧ (w'.cell? ⟨g, 2, none⟩ = some (Value.string (str s)) ∧ w'.cell? ⟨g, 3, none⟩ = some (Value.int .i64 n3) ∧ w'.cell? ⟨g, 4, none⟩ = some u ∧ w'.cell? ⟨g, 5, none⟩ = some (Value.int .i64 n5) ∧ w'.cell? ⟨g, 0, none⟩ = some (Value.int .i64 n0) ∧ w'.cell? ⟨g, 1, none⟩ = some (Value.int .i64 n1) ∧ Below w.heap.size w w'))))
  clear k0 k1 k2 k3 k4 k5 C1 C2 C3 C4 C5
  go_enter Try.func11, Try.ntmps11
  go_upto_region 1 with fail
  clear hW0
  go_region_held_law (fun W => (W.cell? ⟨g, 2, none⟩ = some (Value.string (str s)) ∧ W.cell? ⟨g, 3, none⟩ = some (Value.int .i64 n3) ∧ W.cell? ⟨g, 4, none⟩ = some u ∧ W.cell? ⟨g, 5, none⟩ = some (Value.int .i64 n5) ∧ W.cell? ⟨g, 0, none⟩ = some (Value.int .i64 n0) ∧ W.cell? ⟨g, 1, none⟩ = some (Value.int .i64 n1) ∧ Below w.heap.size w W)) (first | exact hS0 | exact hSA | assumption) (first | (go_at_call 29; refine (G1.out hSA).mono ?_; rintro _ w1 ⟨rfl, hS1⟩) | (go_at_call 30; ((with_reducible refine (G2.out _ ?_).mono ?_); (first | exact hS0 | exact hSA | assumption)); rintro _ w2 ⟨rfl, hS2⟩) | (go_at_call 31; ((with_reducible refine (G3.out _ ?_).mono ?_); (first | exact hS0 | exact hSA | assumption)); rintro _ w3 ⟨rfl, hS3⟩) | (go_at_call 32; ((with_reducible refine (G4.out _ ?_).mono ?_); (first | exact hS0 | exact hSA | assumption)); rintro _ w4 ⟨rfl, hS4⟩) | (go_at_call 31; ((with_reducible refine (G5.out _ ?_).mono ?_); (first | exact hS0 | exact hSA | assumption)); rintro _ w5 ⟨rfl, hS5⟩))
  go_wp2_with fail
  go_ret
  exact ⟨rfl, hS5.2.2.2.2.2.2⟩

theorem layEvs_go (l : List Ev) (K : Nat) (x : Ev) (h : l[K]? = some x) : (l.take (K + 1)).flatMap layEv = (l.take K).flatMap layEv ++ num x.pos ++ listL x.vars := by
  rw [flat_take layEv h, List.append_assoc]; rfl
/-- A bound of what lists come to. -/
theorem flat_len {X : Type} (f : X → List UInt8) (c : Nat) : ∀ (l : List X), (∀ x ∈ l, (f x).length ≤ c) → (l.flatMap f).length ≤ c * l.length
  | [], _ => Nat.le_refl _
  | x :: l, h => by
    rw [List.flatMap_cons, List.length_append, List.length_cons, Nat.mul_succ]
    have h1 := h x (List.mem_cons_self ..)
    have h2 := flat_len f c l fun y hy => h y (List.mem_cons_of_mem _ hy)
    omega
theorem layEv_len (x : Ev) (h : EvWf x) : (layEv x).length ≤ 200000000000000 := by
  unfold layEv
  rw [List.length_append]
  have h1 := num_len x.pos h.1
  have h2 := listL_len x.vars h.2
  have h3 := h.2.2
  omega

set_option maxHeartbeats 4000000 in
theorem layEvs_any (L : Low) (l : List Ev) (v : Value) (w : World) (h : EvsIs w v l) (hw : EvsWf l) (hl : l.length ≤ 40000) :
    Calls Try.prog 15 #[v] w fun e w' => e = .returned (.string (str (layEvs l))) ∧ Below w.heap.size w w' := by
  obtain ⟨a, cap, rfl, hc⟩ := h.open
  obtain ⟨N, hN⟩ : ∃ N, l.length = N := ⟨_, rfl⟩
  have HC := Lib.hid hc
  have HN := Lib.hid hN
  have HW := Lib.hid hw
  have hn : N ≤ 40000 := by rw [← hN]; exact hl
  have H0 := Lib.hid (fun W => L.number (N : Int) W ⟨by omega, by omega⟩)
  have hz := num_len (N : Int) ⟨by omega, by omega⟩
  have HD := Lib.hid (show layEvs l = num (N : Int) ++ l.flatMap layEv by rw [← hN]; rfl)
  rw [hN]
  generalize layEvs l = R at HD ⊢
  generalize num (N : Int) = X0 at H0 hz HD
  clear hc h hN hw hl
  go_enter Try.func15, Try.ntmps15
  go_wp2_with fail
  refine (H0.out _).mono ?_
  rintro _ w1 ⟨rfl, hb1⟩
  go_wp2_with fail
  go_loopw [3, 4] (fun o i wr => ∃ K : Nat, i = .int .i64 (K : Int) ∧ K ≤ N ∧ o = .string (str (X0 ++ (l.take K).flatMap layEv)) ∧ Hid (Below w.heap.size w wr)) (fun _ i _ => N - (intOf i).toNat)
  case atStart => exact ⟨0, rfl, Nat.zero_le _, by rw [List.take_zero, List.flatMap_nil, List.append_nil], Lib.hid hb1⟩
  case round =>
    obtain ⟨K, rfl, hK, rfl, HB⟩ := hrel
    by_cases hlt : K < N
    · have hltI : (K : Int) < (N : Int) := by omega
      have hk0 : 0 ≤ (K : Int) := by omega
      have hw1 : IntKind.i64.wrap ((K : Int) + 1) = (K : Int) + 1 := IntWalk.i64_in _ (by omega)
      obtain ⟨x, hx⟩ : ∃ x, l[K]? = some x := ⟨_, List.getElem?_eq_getElem (by rw [HN.out]; exact hlt)⟩
      obtain ⟨b, off, ea, cs, -, ⟨u, rfl, hu⟩, hcell⟩ := HC.out K x hx
      subst ea
      have k0 : wr.cell? ⟨b, off + K * 2, none⟩ = some (.int .i64 x.pos) := kept_cell HB.out (hcell 0 _ rfl)
      have k1 : wr.cell? ⟨b, off + K * 2 + 1, none⟩ = some u := kept_cell HB.out (hcell 1 _ rfl)
      have hxw := HW.out.1 x (List.mem_of_getElem? hx)
      have hl1 := flat_len layEv 200000000000000 (l.take K) fun y hy => layEv_len y (HW.out.1 y (List.mem_of_mem_take hy))
      rw [List.length_take] at hl1
      have hl2 := num_len x.pos hxw.1
      have hl3 := listL_len x.vars hxw.2
      have hl4 := hxw.2.2
      have HX := Lib.hid (show X0 ++ (l.take (K + 1)).flatMap layEv = X0 ++ (l.take K).flatMap layEv ++ num x.pos ++ listL x.vars by rw [layEvs_go l K x hx]; simp only [List.append_assoc])
      have e1 := add_str (X0 ++ (l.take K).flatMap layEv) (num x.pos) (by rw [List.length_append]; omega)
      have e2 := add_str (X0 ++ (l.take K).flatMap layEv ++ num x.pos) (listL x.vars) (by rw [List.length_append, List.length_append]; omega)
      have C1 := Lib.hid (fun W => L.number x.pos W hxw.1)
      have C2 := Lib.hid (fun W (hb : Below w.heap.size w W) => list_any L x.vars u W (hu.below hb) hxw.2)
      generalize X0 ++ (l.take K).flatMap layEv = T0 at *
      generalize num x.pos = X1 at *
      generalize listL x.vars = X2 at *
      generalize hT1 : T0 ++ X1 = T1 at *
      generalize x.pos = n0 at *
      clear hcell hu hxw hx hl1 hl2 hl3 hl4 hT1
      have hS0 : (wr.drew.cell? ⟨b, off + K * 2, none⟩ = some (Value.int .i64 n0) ∧ wr.drew.cell? ⟨b, off + K * 2 + 1, none⟩ = some u ∧ Below w.heap.size w wr.drew) := ⟨k0, k1, HB.out.drew⟩
      have G1 := Lib.hid (fun (W : World) (hS : (W.cell? ⟨b, off + K * 2, none⟩ = some (Value.int .i64 n0) ∧ W.cell? ⟨b, off + K * 2 + 1, none⟩ = some u ∧ Below w.heap.size w W)) => (C1.out W).mono (fun e (w' : World) ⟨h1, h2⟩ => (⟨h1, kept_cell h2 hS.1, kept_cell h2 hS.2.1, hS.2.2.trans (h2.mono hS.2.2.size)⟩ : e = Ending.returned (Value.string (str X1)) ∧ (w'.cell? ⟨b, off + K * 2, none⟩ = some (Value.int .i64 n0) ∧ w'.cell? ⟨b, off + K * 2 + 1, none⟩ = some u ∧ Below w.heap.size w w'))))
      have G2 := Lib.hid (fun (W : World) (hS : (W.cell? ⟨b, off + K * 2, none⟩ = some (Value.int .i64 n0) ∧ W.cell? ⟨b, off + K * 2 + 1, none⟩ = some u ∧ Below w.heap.size w W)) => (C2.out W hS.2.2).mono (fun e (w' : World) ⟨h1, h2⟩ => (⟨h1, kept_cell h2 hS.1, kept_cell h2 hS.2.1, hS.2.2.trans (h2.mono hS.2.2.size)⟩ : e = Ending.returned (Value.string (str X2)) ∧ (w'.cell? ⟨b, off + K * 2, none⟩ = some (Value.int .i64 n0) ∧ w'.cell? ⟨b, off + K * 2 + 1, none⟩ = some u ∧ Below w.heap.size w w'))))
      clear k0 k1 C1 C2
      go_upto_region 5 with fail
      go_region_held3 (fun W => (W.cell? ⟨b, off + K * 2, none⟩ = some (Value.int .i64 n0) ∧ W.cell? ⟨b, off + K * 2 + 1, none⟩ = some u ∧ Below w.heap.size w W)) (first | exact hS0 | assumption) (first | (go_at_call 31; ((with_reducible refine (G1.out _ ?_).mono ?_); (first | exact hS0 | assumption)); rintro _ w1 ⟨rfl, hS1⟩) | (go_at_call 32; ((with_reducible refine (G2.out _ ?_).mono ?_); (first | exact hS0 | assumption)); rintro _ w2 ⟨rfl, hS2⟩))
      go_wp2_with fail
      go_roundw
      case rel => exact ⟨K + 1, by go_num, by omega, by rw [HX.out], Lib.hid hS2.2.2⟩
      case measure => simp [intOf]; omega
    · have hltI : ¬ (K : Int) < (N : Int) := by omega
      have hd : X0 ++ (l.take K).flatMap layEv = R := by rw [HD.out, List.take_of_length_le (by rw [HN.out]; omega)]
      rw [hd]
      go_wp2_with fail
      go_ret
      exact ⟨rfl, HB.out⟩
end Go.Proofs.Ytebglkpejdoggaa.C10
