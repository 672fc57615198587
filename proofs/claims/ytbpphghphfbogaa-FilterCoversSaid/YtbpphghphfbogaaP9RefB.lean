/-
  Layer 9, the document's answers: covering, what filters have in common, and the normal form.
-/
import Derived.Test.YtbpphghphfbogaaP9Ref
import Derived.Deep.RegionHeld3
import Derived.Deep.DeepCutAuto
import Derived.Deep.LoopGhost
namespace Go.Proofs.Ytbpphghphfbogaa.P8
open Go Go.RowKit Go.Shelf Go.Proofs Go.Proofs.Ytbpphghphfbogaa.B Go.Proofs.Ytbpphghphfbogaa.K
set_option linter.unusedVariables false
set_option maxRecDepth 100000

set_option maxHeartbeats 2000000 in
theorem refCovers9_any (l m : List (List UInt8)) (v u : Value) (w : World) (h : Ts w v l) (hm : Ts w u m) (hn : l.length ≤ 4611686018427387904) (hnm : m.length ≤ 4611686018427387904) (hl : ∀ x ∈ l, x.length ≤ 9223372036854775807) (hlm : ∀ x ∈ m, x.length ≤ 9223372036854775807) :
    Calls Try.prog 18 #[v, u] w fun e w' => e = .returned (.bool (covF l m)) ∧ Below w.heap.size w w' := by
  have HRA := Lib.hid (fun (W : World) (hb : Below w.heap.size w W) => refRight9_any l v W (h.below hb) hl)
  have HRB := Lib.hid (fun (W : World) (hb : Below w.heap.size w W) => refRight9_any m u W (hm.below hb) hlm)
  obtain ⟨a, cap, rfl, hc⟩ := h.open
  obtain ⟨a', cap', rfl, hc'⟩ := hm.open
  obtain ⟨N, hN⟩ : ∃ N, l.length = N := ⟨_, rfl⟩
  obtain ⟨M, hM⟩ : ∃ M, m.length = M := ⟨_, rfl⟩
  have HC := Lib.hid hc
  have HC' := Lib.hid hc'
  have HN := Lib.hid hN
  have HM := Lib.hid hM
  have HL := Lib.hid hl
  have HLM := Lib.hid hlm
  rw [hN] at hn HRA
  rw [hM] at hnm HRB
  rw [hN, hM]
  have HNN := Lib.hid (And.intro hn hnm)
  clear hc hc' h hm hN hM hl hlm hn hnm
  go_enter Try.func18, Try.ntmps18
  go_wp2_with fail
  go_loopw [5] (fun i wr => ∃ K : Nat, i = .int .i64 (K : Int) ∧ K ≤ M ∧ Hid ((m.all fun y => l.any fun x => covT x y) = ((m.drop K).all fun y => l.any fun x => covT x y) ∧ Below w.heap.size w wr)) (fun i _ => M - (intOf i).toNat)
  case atStart => exact ⟨0, rfl, Nat.zero_le _, Lib.hid ⟨rfl, Below.refl _ _⟩⟩
  case round =>
    obtain ⟨K, rfl, hK, HJ⟩ := hrel
    by_cases hlt : K < M
    · have hltI : (K : Int) < (M : Int) := by omega
      have hk0 : 0 ≤ (K : Int) := by omega
      have HLT := Lib.hid hlt
      have hw1 : IntKind.i64.wrap ((K : Int) + 1) = (K : Int) + 1 := IntWalk.i64_in _ (by have := HNN.out; omega)
      obtain ⟨y, hy⟩ : ∃ y, m[K]? = some y := ⟨_, List.getElem?_eq_getElem (by rw [HM.out]; exact hlt)⟩
      obtain ⟨b, off, ha', hcell⟩ := HC'.out K y hy
      have hd := HJ.out.1
      rw [all_drop _ hy] at hd
      have HD := Lib.hid hd
      have HY := Lib.hid (HLM.out y (List.mem_of_getElem? hy))
      have HCY := Lib.hid hcell
      subst ha'
      clear hd hy hcell
      go_wp2_with fail
      go_loopw [6, 7] (fun o i wi => ∃ (k : Nat) (is : Bool), o = .bool is ∧ i = .int .i64 (k : Int) ∧ k ≤ N ∧ Hid ((l.any fun x => covT x y) = (is || (l.drop k).any fun x => covT x y) ∧ Below w.heap.size w wi)) (fun _ i _ => N - (intOf i).toNat)
      case atStart => exact ⟨0, false, rfl, rfl, Nat.zero_le _, Lib.hid ⟨rfl, HJ.out.2⟩⟩
      case round =>
        obtain ⟨k, is, rfl, rfl, hk, HI⟩ := hrel
        clear hlt hltI
        by_cases hlt : k < N
        · have hltI : (k : Int) < (N : Int) := by omega
          have hk1 : 0 ≤ (k : Int) := by omega
          have hltM : (K : Int) < (M : Int) := by have := HLT.out; omega
          have hw2 : IntKind.i64.wrap ((k : Int) + 1) = (k : Int) + 1 := IntWalk.i64_in _ (by have := HNN.out; omega)
          obtain ⟨x, hx⟩ : ∃ x, l[k]? = some x := ⟨_, List.getElem?_eq_getElem (by rw [HN.out]; exact hlt)⟩
          obtain ⟨b2, off2, rfl, hcell⟩ := HC.out k x hx
          have hc1 := cell_b HI.out.2 hcell
          have hc2 := cell_b HI.out.2 HCY.out
          have hd := HI.out.1
          rw [any_drop _ hx] at hd
          have HV := Lib.hid (fun W => refCoversT_any x y (HL.out x (List.mem_of_getElem? hx)) HY.out W)
          obtain ⟨c, hcv⟩ : ∃ c, covT x y = c := ⟨_, rfl⟩
          rw [hcv] at HV hd
          have HE := Lib.hid hd
          clear hd hx hcell hcv
          cases is with
          | true =>
            go_upto_region 8 with fail
            go_quiet (fail)
            go_wp2_with fail
            go_roundw
            case rel => exact ⟨k + 1, true, rfl, by go_num, by omega, Lib.hid ⟨by rw [HE.out]; simp, by first | exact HI.out.2.trans ((below_drewN _ _).mono HI.out.2.size) | exact HI.out.2.drew | exact HI.out.2⟩⟩
            case measure => simp [intOf]; omega
          | false =>
            have HV2 := Lib.hid (fun (W : World) (hS : (W.cell? ⟨b2, off2 + k, none⟩ = some (Value.string (str x)) ∧ W.cell? ⟨b, off + K, none⟩ = some (Value.string (str y)) ∧ Below w.heap.size w W)) => (HV.out W).mono (fun zz (w' : World) ⟨h1, h2⟩ => (⟨h1, cell_b h2 hS.1, cell_b h2 hS.2.1, hS.2.2.trans (h2.mono hS.2.2.size)⟩ : _ ∧ (w'.cell? ⟨b2, off2 + k, none⟩ = some (Value.string (str x)) ∧ w'.cell? ⟨b, off + K, none⟩ = some (Value.string (str y)) ∧ Below w.heap.size w w'))))
            go_upto_region 8 with fail
            have hS0 : (wr.drew.cell? ⟨b2, off2 + k, none⟩ = some (Value.string (str x)) ∧ wr.drew.cell? ⟨b, off + K, none⟩ = some (Value.string (str y)) ∧ Below w.heap.size w wr.drew) := ⟨hc1, hc2, HI.out.2.drew⟩
            clear hc1 hc2
            go_region_held3 (fun W => (W.cell? ⟨b2, off2 + k, none⟩ = some (Value.string (str x)) ∧ W.cell? ⟨b, off + K, none⟩ = some (Value.string (str y)) ∧ Below w.heap.size w W)) (first | exact hS0 | assumption) (first | (go_at_call 35; ((with_reducible refine (HV2.out _ ?_).mono ?_); (first | exact hS0 | assumption)); rintro _ w1 ⟨rfl, hS1⟩))
            all_goals
              go_wp2_with fail
              go_roundw
              case rel => exact ⟨k + 1, c, rfl, by go_num, by omega, Lib.hid ⟨by rw [HE.out]; simp, hS1.2.2⟩⟩
              case measure => simp [intOf]; omega
        · have hltI : ¬ (k : Int) < (N : Int) := by omega
          have hd := HI.out.1
          rw [List.drop_of_length_le (i := k) (by rw [HN.out]; omega), List.any_nil, Bool.or_false] at hd
          have HE := Lib.hid hd
          have hK2 := HLT.out
          clear hd
          cases is with
          | true =>
            go_wp2_with fail
            go_roundw
            case rel => exact ⟨K + 1, by go_num, by omega, Lib.hid ⟨by rw [HD.out, HE.out]; rfl, HI.out.2⟩⟩
            case measure => simp [intOf]; omega
          | false =>
            go_wp2_with fail
            go_ret
            exact ⟨by unfold covF; rw [HD.out, HE.out]; rfl, HI.out.2⟩
    · have hltI : ¬ (K : Int) < (M : Int) := by omega
      have hd := HJ.out.1
      rw [List.drop_of_length_le (i := K) (by rw [HM.out]; omega)] at hd
      have HD := Lib.hid (show covF l m = (right9 l && right9 m) by unfold covF; rw [hd]; rfl)
      clear hd
      obtain ⟨ra, hra⟩ : ∃ r, right9 l = r := ⟨_, rfl⟩
      obtain ⟨rb, hrb⟩ : ∃ r, right9 m = r := ⟨_, rfl⟩
      rw [hra] at HRA
      rw [hrb] at HRB
      rw [hra, hrb] at HD
      clear hra hrb
      cases ra with
      | true =>
        go_wp2_with (go_at_call 21; first | (with_reducible refine (HRA.out _ HJ.out.2).mono ?_; rintro _ w1 ⟨rfl, hb1⟩; have HB1 := Lib.hid (HJ.out.2.trans (hb1.mono HJ.out.2.size)); clear hb1) | (with_reducible refine (HRB.out _ HB1.out).mono ?_; rintro _ w2 ⟨rfl, hb2⟩; have HB2 := Lib.hid (HB1.out.trans (hb2.mono HB1.out.size)); clear hb2))
        go_ret
        exact ⟨by rw [HD.out]; rfl, HB2.out⟩
      | false =>
        go_wp2_with (go_at_call 21; with_reducible refine (HRA.out _ HJ.out.2).mono ?_; rintro _ w1 ⟨rfl, hb1⟩; have HB1 := Lib.hid (HJ.out.2.trans (hb1.mono HJ.out.2.size)); clear hb1)
        go_ret
        exact ⟨by rw [HD.out]; rfl, HB1.out⟩

set_option maxHeartbeats 2000000 in
theorem refMeet9_any (l m : List (List UInt8)) (v u : Value) (w : World) (h : Ts w v l) (hm : Ts w u m) (hn : l.length ≤ 4611686018427387904) (hnm : m.length ≤ 4611686018427387904) (hl : ∀ x ∈ l, x.length ≤ 9223372036854775807) (hlm : ∀ x ∈ m, x.length ≤ 9223372036854775807) :
    Calls Try.prog 20 #[v, u] w fun e w' => e = .returned (.bool (metF l m)) ∧ Below w.heap.size w w' := by
  have HRA := Lib.hid (fun (W : World) (hb : Below w.heap.size w W) => refRight9_any l v W (h.below hb) hl)
  have HRB := Lib.hid (fun (W : World) (hb : Below w.heap.size w W) => refRight9_any m u W (hm.below hb) hlm)
  obtain ⟨a, cap, rfl, hc⟩ := h.open
  obtain ⟨a', cap', rfl, hc'⟩ := hm.open
  obtain ⟨N, hN⟩ : ∃ N, l.length = N := ⟨_, rfl⟩
  obtain ⟨M, hM⟩ : ∃ M, m.length = M := ⟨_, rfl⟩
  have HC := Lib.hid hc
  have HC' := Lib.hid hc'
  have HN := Lib.hid hN
  have HM := Lib.hid hM
  have HL := Lib.hid hl
  have HLM := Lib.hid hlm
  rw [hN] at hn HRA
  rw [hM] at hnm HRB
  rw [hN, hM]
  have HNN := Lib.hid (And.intro hn hnm)
  clear hc hc' h hm hN hM hl hlm hn hnm
  go_enter Try.func20, Try.ntmps20
  go_wp2_with fail
  go_loopw [5, 6] (fun o i wr => ∃ (K : Nat) (is : Bool), o = .bool is ∧ i = .int .i64 (K : Int) ∧ K ≤ M ∧ Hid ((m.any fun y => l.any fun x => metT x y) = (is || (m.drop K).any fun y => l.any fun x => metT x y) ∧ Below w.heap.size w wr)) (fun _ i _ => M - (intOf i).toNat)
  case atStart => exact ⟨0, false, rfl, rfl, Nat.zero_le _, Lib.hid ⟨rfl, Below.refl _ _⟩⟩
  case round =>
    obtain ⟨K, is0, rfl, rfl, hK, HJ⟩ := hrel
    by_cases hlt : K < M
    · have hltI : (K : Int) < (M : Int) := by omega
      have hk0 : 0 ≤ (K : Int) := by omega
      have HLT := Lib.hid hlt
      have hw1 : IntKind.i64.wrap ((K : Int) + 1) = (K : Int) + 1 := IntWalk.i64_in _ (by have := HNN.out; omega)
      obtain ⟨y, hy⟩ : ∃ y, m[K]? = some y := ⟨_, List.getElem?_eq_getElem (by rw [HM.out]; exact hlt)⟩
      obtain ⟨b, off, ha', hcell⟩ := HC'.out K y hy
      have hd := HJ.out.1
      rw [any_drop _ hy] at hd
      have HD := Lib.hid hd
      have HY := Lib.hid (HLM.out y (List.mem_of_getElem? hy))
      have HCY := Lib.hid hcell
      subst ha'
      clear hd hy hcell
      go_wp2_with fail
      go_loopw [5, 7] (fun o i wi => ∃ (k : Nat) (is : Bool), o = .bool is ∧ i = .int .i64 (k : Int) ∧ k ≤ N ∧ Hid ((is0 || l.any fun x => metT x y) = (is || (l.drop k).any fun x => metT x y) ∧ Below w.heap.size w wi)) (fun _ i _ => N - (intOf i).toNat)
      case atStart => exact ⟨0, is0, rfl, rfl, Nat.zero_le _, Lib.hid ⟨rfl, HJ.out.2⟩⟩
      case round =>
        obtain ⟨k, is, rfl, rfl, hk, HI⟩ := hrel
        clear hlt hltI
        by_cases hlt : k < N
        · have hltI : (k : Int) < (N : Int) := by omega
          have hk1 : 0 ≤ (k : Int) := by omega
          have hltM : (K : Int) < (M : Int) := by have := HLT.out; omega
          have hw2 : IntKind.i64.wrap ((k : Int) + 1) = (k : Int) + 1 := IntWalk.i64_in _ (by have := HNN.out; omega)
          obtain ⟨x, hx⟩ : ∃ x, l[k]? = some x := ⟨_, List.getElem?_eq_getElem (by rw [HN.out]; exact hlt)⟩
          obtain ⟨b2, off2, rfl, hcell⟩ := HC.out k x hx
          have hc1 := cell_b HI.out.2 hcell
          have hc2 := cell_b HI.out.2 HCY.out
          have hd := HI.out.1
          rw [any_drop _ hx] at hd
          have HV := Lib.hid (fun W => refMeetsT_any x y (HL.out x (List.mem_of_getElem? hx)) HY.out W)
          obtain ⟨c, hcv⟩ : ∃ c, metT x y = c := ⟨_, rfl⟩
          rw [hcv] at HV hd
          have HE := Lib.hid hd
          clear hd hx hcell hcv
          cases is with
          | true =>
            go_upto_region 8 with fail
            go_quiet (fail)
            go_wp2_with fail
            go_roundw
            case rel => exact ⟨k + 1, true, rfl, by go_num, by omega, Lib.hid ⟨by rw [HE.out]; simp, by first | exact HI.out.2.trans ((below_drewN _ _).mono HI.out.2.size) | exact HI.out.2.drew | exact HI.out.2⟩⟩
            case measure => simp [intOf]; omega
          | false =>
            have HV2 := Lib.hid (fun (W : World) (hS : (W.cell? ⟨b2, off2 + k, none⟩ = some (Value.string (str x)) ∧ W.cell? ⟨b, off + K, none⟩ = some (Value.string (str y)) ∧ Below w.heap.size w W)) => (HV.out W).mono (fun zz (w' : World) ⟨h1, h2⟩ => (⟨h1, cell_b h2 hS.1, cell_b h2 hS.2.1, hS.2.2.trans (h2.mono hS.2.2.size)⟩ : _ ∧ (w'.cell? ⟨b2, off2 + k, none⟩ = some (Value.string (str x)) ∧ w'.cell? ⟨b, off + K, none⟩ = some (Value.string (str y)) ∧ Below w.heap.size w w'))))
            go_upto_region 8 with fail
            have hS0 : (wr.drew.cell? ⟨b2, off2 + k, none⟩ = some (Value.string (str x)) ∧ wr.drew.cell? ⟨b, off + K, none⟩ = some (Value.string (str y)) ∧ Below w.heap.size w wr.drew) := ⟨hc1, hc2, HI.out.2.drew⟩
            clear hc1 hc2
            go_region_held3 (fun W => (W.cell? ⟨b2, off2 + k, none⟩ = some (Value.string (str x)) ∧ W.cell? ⟨b, off + K, none⟩ = some (Value.string (str y)) ∧ Below w.heap.size w W)) (first | exact hS0 | assumption) (first | (go_at_call 37; ((with_reducible refine (HV2.out _ ?_).mono ?_); (first | exact hS0 | assumption)); rintro _ w1 ⟨rfl, hS1⟩))
            all_goals
              go_wp2_with fail
              go_roundw
              case rel => exact ⟨k + 1, c, rfl, by go_num, by omega, Lib.hid ⟨by rw [HE.out]; simp, hS1.2.2⟩⟩
              case measure => simp [intOf]; omega
        · have hltI : ¬ (k : Int) < (N : Int) := by omega
          have hd := HI.out.1
          rw [List.drop_of_length_le (i := k) (by rw [HN.out]; omega), List.any_nil, Bool.or_false] at hd
          have HE := Lib.hid hd
          have hK2 := HLT.out
          clear hd
          go_wp2_with fail
          go_roundw
          case rel => exact ⟨K + 1, is, rfl, by go_num, by omega, Lib.hid ⟨by rw [HD.out, ← HE.out, Bool.or_assoc], HI.out.2⟩⟩
          case measure => simp [intOf]; omega
    · have hltI : ¬ (K : Int) < (M : Int) := by omega
      have hd := HJ.out.1
      rw [List.drop_of_length_le (i := K) (by rw [HM.out]; omega)] at hd
      have HD := Lib.hid (show metF l m = (is0 && (right9 l && right9 m)) by unfold metF; rw [hd]; simp)
      clear hd
      obtain ⟨ra, hra⟩ : ∃ r, right9 l = r := ⟨_, rfl⟩
      obtain ⟨rb, hrb⟩ : ∃ r, right9 m = r := ⟨_, rfl⟩
      rw [hra] at HRA
      rw [hrb] at HRB
      rw [hra, hrb] at HD
      clear hra hrb
      cases is0 with
      | false =>
        go_wp2_with fail
        go_ret
        exact ⟨by rw [HD.out]; rfl, HJ.out.2⟩
      | true =>
        cases ra with
        | true =>
          go_wp2_with (go_at_call 21; first | (with_reducible refine (HRA.out _ HJ.out.2).mono ?_; rintro _ w1 ⟨rfl, hb1⟩; have HB1 := Lib.hid (HJ.out.2.trans (hb1.mono HJ.out.2.size)); clear hb1) | (with_reducible refine (HRB.out _ HB1.out).mono ?_; rintro _ w2 ⟨rfl, hb2⟩; have HB2 := Lib.hid (HB1.out.trans (hb2.mono HB1.out.size)); clear hb2))
          go_ret
          exact ⟨by rw [HD.out]; rfl, HB2.out⟩
        | false =>
          go_wp2_with (go_at_call 21; with_reducible refine (HRA.out _ HJ.out.2).mono ?_; rintro _ w1 ⟨rfl, hb1⟩; have HB1 := Lib.hid (HJ.out.2.trans (hb1.mono HJ.out.2.size)); clear hb1)
          go_ret
          exact ⟨by rw [HD.out]; rfl, HB1.out⟩

/-- Where a pattern is put in, text by text. -/
def putIn (p : List UInt8) (O : List (List UInt8)) (k : Nat) (done : Bool) : List (List UInt8) := if done then O.drop k else insL p (O.drop k)
theorem putIn_at {p : List UInt8} {O : List (List UInt8)} {k : Nat} {x : List UInt8} (h : O[k]? = some x) : putIn p O k false = if lessL p x then p :: x :: putIn p O (k + 1) true else x :: putIn p O (k + 1) false := by
  obtain ⟨hlt, rfl⟩ := List.getElem?_eq_some_iff.1 h
  unfold putIn
  simp only [Bool.false_eq_true, if_false, if_true]
  rw [List.drop_eq_getElem_cons hlt, insL]
theorem putIn_done {p : List UInt8} {O : List (List UInt8)} {k : Nat} {x : List UInt8} (h : O[k]? = some x) : putIn p O k true = x :: putIn p O (k + 1) true := by
  obtain ⟨hlt, rfl⟩ := List.getElem?_eq_some_iff.1 h
  unfold putIn
  simp only [if_true]
  rw [List.drop_eq_getElem_cons hlt]
theorem putIn_end {p : List UInt8} {O : List (List UInt8)} {k : Nat} (h : O.length ≤ k) (d : Bool) : putIn p O k d = if d then [] else [p] := by
  unfold putIn
  rw [List.drop_of_length_le h]; rfl
theorem ins_len (p : List UInt8) : ∀ l, (insL p l).length = l.length + 1
  | [] => rfl
  | x :: l => by
    unfold insL
    split
    · rfl
    · rw [List.length_cons, ins_len p l]; rfl
theorem Sl.at2 {w : World} {a : Option Addr} {n cap : Nat} {l : List (List UInt8)} {j : Nat} {x : List UInt8} (h : Ts w (.slice a n cap) l) (hx : l[j]? = some x) : ∃ b off, a = some ⟨b, off, none⟩ ∧ w.cell? ⟨b, off + j, none⟩ = some (.string (str x)) := by
  obtain ⟨a', cap', e, hc⟩ := h.open
  cases e
  exact hc j x hx
theorem ts_own {w : World} {base n : Nat} {v : Value} {l : List (List UInt8)} (h : w.ownsRow base 9 1 v n (l.map sv)) : Ts w v l := Sl.owns h
theorem shape_own {w : World} {base : Nat} {e : TypeId} {s : Nat} {v : Value} {n : Nat} {xs : List Value} (h : w.ownsRow base e s v n xs) : ∃ a cap, v = .slice a n cap := by
  rcases h.2 with ⟨rfl, h0⟩ | ⟨g, cap, cur, rfl, _⟩
  · exact ⟨none, 0, by rw [h0]⟩
  · exact ⟨_, _, rfl⟩
theorem own_keep {w w' : World} {B : Nat} {e : TypeId} {k : Nat} {v : Value} {n : Nat} {xs : List Value} (h : w.ownsRow B e k v n xs) (hb : Below w.heap.size w w') : w'.ownsRow B e k v n xs :=
  h.kept (row := none) ⟨hb.os, hb.tape, hb.output, hb.size, fun j hj _ => hb.block j hj⟩ (by cases hv : v.ownBlock <;> simp)

set_option maxHeartbeats 8000000 in
theorem refLeast_any (l : List (List UInt8)) (v : Value) (w : World) (h : Ts w v l) (hn : l.length ≤ 1000) (hl : ∀ x ∈ l, x.length ≤ 9223372036854775806) :
    Calls Try.prog 14 #[v] w fun e w' => ∃ u, e = .returned u ∧ Ts w' u (leastL l) ∧ Below w.heap.size w w' := by
  obtain ⟨i0, hi, hz0, hz1, hz2⟩ := info_parts Try.info9
  have HND := Lib.hid (fun (p : List UInt8) (hp : p ∈ l) (W : World) (hb : Below w.heap.size w W) => refNeeded_any l p v W (h.below hb) (by omega) (fun x hx => by have := hl x hx; omega) (by have := hl p hp; omega))
  obtain ⟨a, cap, rfl, hc⟩ := h.open
  obtain ⟨N, hN⟩ : ∃ N, l.length = N := ⟨_, rfl⟩
  have HC := Lib.hid hc
  have HN := Lib.hid hN
  have HL := Lib.hid hl
  rw [hN] at hn HND ⊢
  have HNN := Lib.hid hn
  clear hc h hN hl hn
  go_enter Try.func14, Try.ntmps14
  go_wp2_with fail
  go_loopg [3, 4] (N) (fun gg o i wr => ∃ (K : Nat) (O : List (List UInt8)), i = .int .i64 (K : Int) ∧ K + gg = N ∧ Hid (leastGo l (l.drop K) O = leastL l ∧ O.length ≤ K ∧ (∀ x ∈ O, x ∈ l) ∧ Below w.heap.size w wr ∧ Ts wr o O))
  case atStart => exact ⟨0, [], rfl, by omega, Lib.hid ⟨rfl, Nat.le_refl _, (fun x hx => by cases hx), Below.refl _ _, Sl.nil _⟩⟩
  case round =>
    obtain ⟨K, O, rfl, hKg, HJ⟩ := hrel
    obtain ⟨ao, co, rfl, hco⟩ := HJ.out.2.2.2.2.open
    have HCO := Lib.hid hco
    obtain ⟨NO, hNO⟩ : ∃ N, O.length = N := ⟨_, rfl⟩
    rw [hNO]
    have HNO := Lib.hid hNO
    clear hco hNO
    have hwk : IntKind.i64.wrap ((K : Int) + 1) = (K : Int) + 1 := IntWalk.i64_in _ (by have := HNN.out; omega)
    by_cases hlt : K < N
    · have hltI : (K : Int) < (N : Int) := by omega
      have hk0 : 0 ≤ (K : Int) := by omega
      have HLT := Lib.hid (And.intro hlt hKg)
      obtain ⟨p, hp⟩ : ∃ p, l[K]? = some p := ⟨_, List.getElem?_eq_getElem (by rw [HN.out]; exact hlt)⟩
      have hpm := List.mem_of_getElem? hp
      have HPM := Lib.hid hpm
      obtain ⟨b, off, rfl, hcell⟩ := HC.out K p hp
      have hc1 := cell_b HJ.out.2.2.2.1 hcell
      have hd : leastGo l (l.drop (K + 1)) (if O.contains p || !needed l p then O else insL p O) = leastL l := by
        rw [← HJ.out.1]
        obtain ⟨hlt', rfl⟩ := List.getElem?_eq_some_iff.1 hp
        rw [List.drop_eq_getElem_cons hlt', leastGo]
      have HHS := Lib.hid (refHas1_any O p (.slice ao NO co) wr (by have := HJ.out.2.2.2.2; rwa [HNO.out] at this) (by have := HNO.out; have := HJ.out.2.1; have := HNN.out; omega))
      have HNE := Lib.hid (HND.out p hpm wr HJ.out.2.2.2.1)
      obtain ⟨c1, hc1e⟩ : ∃ c, inL O p = c := ⟨_, rfl⟩
      obtain ⟨c2, hc2e⟩ : ∃ c, needed l p = c := ⟨_, rfl⟩
      rw [hc1e] at HHS
      rw [show O.contains p = c1 from hc1e] at hd
      rw [hc2e] at HNE hd
      have HD := Lib.hid hd
      clear hd hp hpm hcell hc1e hc2e
      cases c1 with
      | true =>
        go_wp2_with (go_at_call 28; refine HHS.out.mono ?_; rintro _ w1 ⟨rfl, rfl⟩)
        go_roundg (N - (K + 1))
        case measure => omega
        case rel => exact ⟨K + 1, O, by go_num, by omega, Lib.hid ⟨HD.out, by have := HJ.out.2.1; omega, HJ.out.2.2.1, HJ.out.2.2.2.1, by have := HJ.out.2.2.2.2; rwa [HNO.out] at this⟩⟩
      | false =>
        cases c2 with
        | false =>
          go_wp2_with (first | (go_at_call 28; refine HHS.out.mono ?_; rintro _ w1 ⟨rfl, rfl⟩) | (go_at_call 29; refine HNE.out.mono ?_; rintro _ w2 ⟨rfl, hb2⟩; have HB2 := Lib.hid hb2; clear hb2))
          go_roundg (N - (K + 1))
          case measure => omega
          case rel => exact ⟨K + 1, O, by go_num, by omega, Lib.hid ⟨HD.out, by have := HJ.out.2.1; omega, HJ.out.2.2.1, HJ.out.2.2.2.1.trans (HB2.out.mono HJ.out.2.2.2.1.size), by have := HJ.out.2.2.2.2.below HB2.out; rwa [HNO.out] at this⟩⟩
        | true =>
          go_wp2_with (first | (go_at_call 28; refine HHS.out.mono ?_; rintro _ w1 ⟨rfl, rfl⟩) | (go_at_call 29; refine HNE.out.mono ?_; rintro _ w2 ⟨rfl, hb2⟩; have HB2 := Lib.hid hb2; clear hb2))
          obtain ⟨W0, hW0⟩ : ∃ W : World, w2 = W := ⟨_, rfl⟩
          rw [hW0] at HB2 ⊢
          have HTO := Lib.hid (show Ts W0 (.slice ao NO co) O by have := HJ.out.2.2.2.2.below HB2.out; rwa [HNO.out] at this)
          clear hc1 hW0
          go_loopg [6, 7, 8] (NO) (fun gg n d k wi => ∃ (j : Nat) (X : List (List UInt8)) (dn : Bool), k = .int .i64 (j : Int) ∧ d = .bool dn ∧ j + gg = NO ∧ Hid (insL p O = X ++ putIn p O j dn ∧ X.length ≤ j + dn.toNat ∧ Below W0.heap.size W0 wi ∧ wi.ownsRow W0.heap.size 9 1 n X.length (X.map sv)))
          case atStart => exact ⟨0, [], false, rfl, rfl, by omega, Lib.hid ⟨rfl, Nat.zero_le _, Below.refl _ _, World.ownsRow_nil _ _ _ _⟩⟩
          case round =>
            obtain ⟨j, X, dn, rfl, rfl, hjg, HI⟩ := hrel
            obtain ⟨ax, kx, rfl⟩ := shape_own HI.out.2.2.2
            obtain ⟨NX, hNX⟩ : ∃ N, X.length = N := ⟨_, rfl⟩
            rw [hNX] at HI ⊢
            have HXL := Lib.hid (show NX ≤ j + 1 ∧ j ≤ 1000 by have := HI.out.2.1; have := Bool.toNat_le dn; have := HNO.out; have := HJ.out.2.1; have := HNN.out; omega)
            have HNX := Lib.hid hNX
            clear hNX hlt hltI
            have hwj : IntKind.i64.wrap ((j : Int) + 1) = (j : Int) + 1 := IntWalk.i64_in _ (by have := HXL.out; omega)
            by_cases hlt : j < NO
            · have hltI : (j : Int) < (NO : Int) := by omega
              have hj0 : 0 ≤ (j : Int) := by omega
              obtain ⟨y, hy⟩ : ∃ y, O[j]? = some y := ⟨_, List.getElem?_eq_getElem (by rw [HNO.out]; exact hlt)⟩
              obtain ⟨b4, off4, hao, hcell⟩ := Sl.at2 HTO.out hy
              have HCY := Lib.hid hcell
              have hcy0 := cell_b HI.out.2.2.1 hcell
              have HYM := Lib.hid (HJ.out.2.2.1 y (List.mem_of_getElem? hy))
              have HLS := Lib.hid (fun W => less_any p y (HL.out p HPM.out) (HL.out y HYM.out) W)
              have HHI := Lib.hid HI.out.1
              have HO0 := Lib.hid HI.out.2.2.2
              have HB0 := Lib.hid HI.out.2.2.1
              subst hao
              cases dn with
              | true =>
                have hd := HI.out.1
                rw [putIn_done hy] at hd
                have HD2 := Lib.hid (show insL p O = (X ++ [y]) ++ putIn p O (j + 1) true by rw [hd]; simp)
                clear hd hy hcell
                go_wp2_with (at_builtin; refine wpList_append_own _ rfl _ _ 22 rfl W0.heap.size 9 i0 (.string ⟨#[]⟩) 1 16 Try.underlying22 hi hz0 hz1 hz2 rfl (by decide) _ _ _ rfl (HO0.out.alloc _) ⟨wr.heap.size, 0, none⟩ 1 1 [.string (str y)] rfl rfl (one_new _ _ _) (one_cell_str _) (by have := HXL.out; unfold maxLen; omega) (by have := HXL.out; omega) (by have := HB0.out.size; simp; omega) ?_; intro v' w8 hown' hgrow hnn; clear hnn; have HB8 := Lib.hid ((HB0.out.alloc HB0.out.size _).grown hgrow (by have := HB0.out.size; simp; omega) (owns_block HO0.out)); obtain ⟨aw8, kw8, rfl⟩ := shape_own hown'; have HO8 := Lib.hid hown'; clear hown' hgrow)
                go_roundg (NO - (j + 1))
                case measure => omega
                case rel => exact ⟨j + 1, X ++ [y], true, by go_num, rfl, by omega, Lib.hid ⟨HD2.out, by have := HXL.out; have := HNX.out; simp; omega, HB8.out, by rw [List.length_append, HNX.out, List.map_append]; exact HO8.out⟩⟩
              | false =>
                have hd := HI.out.1
                rw [putIn_at hy] at hd
                obtain ⟨c, hcl⟩ : ∃ c, lessL p y = c := ⟨_, rfl⟩
                rw [hcl] at HLS hd
                cases c with
                | true =>
                  have HD2 := Lib.hid (show insL p O = (X ++ [p] ++ [y]) ++ putIn p O (j + 1) true by rw [hd]; simp)
                  clear hd hy hcell hcl
                  go_wp2_with (first | (go_at_call 30; refine (HLS.out _).mono ?_; rintro _ w1 ⟨rfl, hb1⟩; have HB1 := Lib.hid (HI.out.2.2.1.trans (hb1.mono HI.out.2.2.1.size)); have HO1 := Lib.hid (own_keep HI.out.2.2.2 hb1); have hcy1 := cell_b HB1.out HCY.out; clear hb1) | (at_builtin; refine wpList_append_own _ rfl _ _ 22 rfl W0.heap.size 9 i0 (.string ⟨#[]⟩) 1 16 Try.underlying22 hi hz0 hz1 hz2 rfl (by decide) _ _ _ rfl (HO1.out.alloc _) ⟨w1.heap.size, 0, none⟩ 1 1 [.string (str p)] rfl rfl (one_new _ _ _) (one_cell_str _) (by have := HXL.out; unfold maxLen; omega) (by have := HXL.out; omega) (by have := HB1.out.size; simp; omega) ?_; intro v' w7 hown' hgrow hnn; clear hnn; have HB7 := Lib.hid ((HB1.out.alloc HB1.out.size _).grown hgrow (by have := HB1.out.size; simp; omega) (owns_block HO1.out)); obtain ⟨aw7, kw7, rfl⟩ := shape_own hown'; have HO7 := Lib.hid hown'; have hcy7 := cell_b HB7.out HCY.out; clear hown' hgrow) | (at_builtin; refine wpList_append_own _ rfl _ _ 22 rfl W0.heap.size 9 i0 (.string ⟨#[]⟩) 1 16 Try.underlying22 hi hz0 hz1 hz2 rfl (by decide) _ _ _ rfl (HO7.out.alloc _) ⟨w7.heap.size, 0, none⟩ 1 1 [.string (str y)] rfl rfl (one_new _ _ _) (one_cell_str _) (by have := HXL.out; unfold maxLen; omega) (by have := HXL.out; omega) (by have := HB7.out.size; simp; omega) ?_; intro v' w8 hown' hgrow hnn; clear hnn; have HB8 := Lib.hid ((HB7.out.alloc HB7.out.size _).grown hgrow (by have := HB7.out.size; simp; omega) (owns_block HO7.out)); obtain ⟨aw8, kw8, rfl⟩ := shape_own hown'; have HO8 := Lib.hid hown'; clear hown' hgrow))
                  go_roundg (NO - (j + 1))
                  case measure => omega
                  case rel => exact ⟨j + 1, X ++ [p] ++ [y], true, by go_num, rfl, by omega, Lib.hid ⟨HD2.out, by have := HNX.out; have h : NX ≤ j := HI.out.2.1; simp; omega, HB8.out, by rw [List.length_append, List.length_append, HNX.out, List.map_append, List.map_append]; exact HO8.out⟩⟩
                | false =>
                  have HD2 := Lib.hid (show insL p O = (X ++ [y]) ++ putIn p O (j + 1) false by rw [hd]; simp)
                  clear hd hy hcell hcl
                  go_wp2_with (first | (go_at_call 30; refine (HLS.out _).mono ?_; rintro _ w1 ⟨rfl, hb1⟩; have HB1 := Lib.hid (HI.out.2.2.1.trans (hb1.mono HI.out.2.2.1.size)); have HO1 := Lib.hid (own_keep HI.out.2.2.2 hb1); have hcy1 := cell_b HB1.out HCY.out; clear hb1) | (at_builtin; refine wpList_append_own _ rfl _ _ 22 rfl W0.heap.size 9 i0 (.string ⟨#[]⟩) 1 16 Try.underlying22 hi hz0 hz1 hz2 rfl (by decide) _ _ _ rfl (HO1.out.alloc _) ⟨w1.heap.size, 0, none⟩ 1 1 [.string (str y)] rfl rfl (one_new _ _ _) (one_cell_str _) (by have := HXL.out; unfold maxLen; omega) (by have := HXL.out; omega) (by have := HB1.out.size; simp; omega) ?_; intro v' w8 hown' hgrow hnn; clear hnn; have HB8 := Lib.hid ((HB1.out.alloc HB1.out.size _).grown hgrow (by have := HB1.out.size; simp; omega) (owns_block HO1.out)); obtain ⟨aw8, kw8, rfl⟩ := shape_own hown'; have HO8 := Lib.hid hown'; clear hown' hgrow))
                  go_roundg (NO - (j + 1))
                  case measure => omega
                  case rel => exact ⟨j + 1, X ++ [y], false, by go_num, rfl, by omega, Lib.hid ⟨HD2.out, by have h : NX ≤ j := HI.out.2.1; have := HNX.out; simp; omega, HB8.out, by rw [List.length_append, HNX.out, List.map_append]; exact HO8.out⟩⟩
            · have hltI : ¬ (j : Int) < (NO : Int) := by omega
              have HO0 := Lib.hid HI.out.2.2.2
              have HB0 := Lib.hid HI.out.2.2.1
              have hd := HI.out.1
              rw [putIn_end (by rw [HNO.out]; omega)] at hd
              have hwk : IntKind.i64.wrap ((K : Int) + 1) = (K : Int) + 1 := IntWalk.i64_in _ (by have := HNN.out; have := HLT.out; omega)
              have hmem : ∀ x ∈ insL p O, x ∈ l := fun x hx => by
                rcases mem_ins.1 hx with rfl | hx
                · exact HPM.out
                · exact HJ.out.2.2.1 x hx
              have HMM := Lib.hid hmem
              have HLI := Lib.hid (show (insL p O).length ≤ K + 1 by rw [ins_len]; have := HJ.out.2.1; omega)
              cases dn with
              | true =>
                have HD2 := Lib.hid (show insL p O = X by rw [hd]; simp)
                clear hd hmem
                go_wp2_with fail
                go_roundg (N - (K + 1))
                case measure => have := HLT.out; omega
                case rel => exact ⟨K + 1, insL p O, by go_num, by have := HLT.out; omega, Lib.hid ⟨HD.out, HLI.out, HMM.out, HJ.out.2.2.2.1.trans ((HB2.out.trans (HB0.out.mono HB2.out.size)).mono HJ.out.2.2.2.1.size), by rw [HD2.out]; exact ts_own HO0.out⟩⟩
              | false =>
                have HD2 := Lib.hid (show insL p O = X ++ [p] by rw [hd]; simp)
                clear hd hmem
                go_wp2_with (at_builtin; refine wpList_append_own _ rfl _ _ 22 rfl W0.heap.size 9 i0 (.string ⟨#[]⟩) 1 16 Try.underlying22 hi hz0 hz1 hz2 rfl (by decide) _ _ _ rfl (HO0.out.alloc _) ⟨wr.heap.size, 0, none⟩ 1 1 [.string (str p)] rfl rfl (one_new _ _ _) (one_cell_str _) (by have := HXL.out; unfold maxLen; omega) (by have := HXL.out; omega) (by have := HB0.out.size; simp; omega) ?_; intro v' w8 hown' hgrow hnn; clear hnn; have HB8 := Lib.hid ((HB0.out.alloc HB0.out.size _).grown hgrow (by have := HB0.out.size; simp; omega) (owns_block HO0.out)); obtain ⟨aw8, kw8, rfl⟩ := shape_own hown'; have HO8 := Lib.hid hown'; clear hown' hgrow)
                go_roundg (N - (K + 1))
                case measure => have := HLT.out; omega
                case rel => exact ⟨K + 1, insL p O, by go_num, by have := HLT.out; omega, Lib.hid ⟨HD.out, HLI.out, HMM.out, HJ.out.2.2.2.1.trans ((HB2.out.trans (HB8.out.mono HB2.out.size)).mono HJ.out.2.2.2.1.size), by rw [HD2.out]; exact ts_own (by rw [List.map_append]; exact HO8.out)⟩⟩
    · have hltI : ¬ (K : Int) < (N : Int) := by omega
      have hd := HJ.out.1
      rw [List.drop_of_length_le (i := K) (by rw [HN.out]; omega)] at hd
      have HD := Lib.hid (show O = leastL l from hd)
      clear hd
      go_wp2_with fail
      go_ret
      refine ⟨_, rfl, ?_, HJ.out.2.2.2.1⟩
      rw [← HD.out]
      have := HJ.out.2.2.2.2
      rwa [HNO.out] at this
end Go.Proofs.Ytbpphghphfbogaa.P8
