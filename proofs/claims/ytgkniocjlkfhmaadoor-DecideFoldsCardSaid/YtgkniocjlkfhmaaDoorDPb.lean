/-
  Layer 7, the program's side: areValues, stands.
-/
import Derived.Test.YtgkniocjlkfhmaaDoorSVd
import Derived.Test.YtgkniocjlkfhmaaDoorSVe
import Derived.Test.YtgkniocjlkfhmaaDoorRMc
namespace Go.Proofs.YtgkniocjlkfhmaaDoor.D
open Go Go.RowKit Go.Proofs.YtgkniocjlkfhmaaDoor.B Go.Proofs.YtgkniocjlkfhmaaDoor.K Go.Proofs.YtgkniocjlkfhmaaDoor.E Go.Proofs.YtgkniocjlkfhmaaDoor.R
set_option linter.unusedVariables false
set_option maxRecDepth 100000

set_option maxHeartbeats 1000000 in
theorem areValues_any (l : List Int) (v : Value) (w : World) (hs : SlN w v l) (hl : l.length ≤ 9223372036854775807) :
    Calls Tryd.prog 27 #[v] w fun e w' => e = .returned (.bool (l.all isVal)) ∧ w = w' := by
  have HS := Lib.hid hs
  obtain ⟨a, cap, rfl, -⟩ := hs
  rw [List.length_map] at HS ⊢
  have HL := Lib.hid hl
  obtain ⟨n, hN⟩ : ∃ n, l.length = n := ⟨_, rfl⟩
  rw [hN] at HL hl
  have HN := Lib.hid hN
  rw [hN] at HS ⊢
  clear hN hl
  go_enter Tryd.func27, Tryd.ntmps27
  go_wp2_with fail
  go_loop [4, 7] (fun _ k => ∃ (K : Nat), k = .int .i64 (K : Int) ∧ K ≤ n ∧ Hid ((l.take K).all isVal = true)) (fun _ k => n - (intOf k).toNat)
  case atStart => exact ⟨0, rfl, Nat.zero_le _, rfl⟩
  case round =>
    obtain ⟨K, rfl, hK, HA⟩ := hrel
    by_cases hlt : K < n
    · obtain ⟨x, hx⟩ : ∃ x, l[K]? = some x := ⟨_, List.getElem?_eq_getElem (by rw [HN.out]; exact hlt)⟩
      obtain ⟨b, off, rfl, h1⟩ := HS.out.at (map_at l K x hx)
      have hwK : IntKind.i64.wrap ((K : Int) + 1) = (K : Int) + 1 := IntWalk.i64_in _ (by have := HL.out; omega)
      have hltI : (K : Int) < (n : Int) := by omega
      by_cases x1 : x < -1099511627776
      · have HE := Lib.hid (all_not l K x hx ((isVal_not x).2 (by omega)))
        clear hx
        go_wp2_with fail
        go_ret
        exact ⟨ret_bool HE.out.symm, rfl⟩
      · have b1 : decide (x < -1099511627776) = false := decide_eq_false x1
        by_cases x2 : 1099511627776 < x
        · have HE := Lib.hid (all_not l K x hx ((isVal_not x).2 (by omega)))
          clear hx
          go_wp2_with fail
          go_ret
          exact ⟨ret_bool HE.out.symm, rfl⟩
        · have b2 : decide (1099511627776 < x) = false := decide_eq_false x2
          have hall := all_at l K x hx
          rw [HA.out, (isVal_iff x).2 (by omega)] at hall
          have HALL := Lib.hid hall
          clear hx hall
          go_wp2_with fail
          go_round
          case rel => exact ⟨K + 1, by go_num, by omega, HALL.out⟩
          case measure => simp [intOf]; omega
    · have hall : l.all isVal = true := by rw [← HA.out, List.take_of_length_le (by rw [HN.out]; omega)]
      have HALL := Lib.hid hall
      have hltI : ¬ (K : Int) < (n : Int) := by omega
      clear hall
      go_wp2_with fail
      go_ret
      exact ⟨ret_bool HALL.out.symm, rfl⟩

theorem box3 (w : World) (a b c : Value) (T : TypeId) : (w.alloc (.cells #[a, b, c] T)).cell? ⟨w.heap.size, 0, none⟩ = some a ∧ (w.alloc (.cells #[a, b, c] T)).cell? ⟨w.heap.size, 1, none⟩ = some b ∧ (w.alloc (.cells #[a, b, c] T)).cell? ⟨w.heap.size, 2, none⟩ = some c :=
  ⟨box_cell _ _ _ _ _ rfl, box_cell _ _ _ _ _ rfl, box_cell _ _ _ _ _ rfl⟩

set_option maxHeartbeats 2000000 in
theorem stands_any (t : Tb) (s : Stt) (c0 c1 c2 c3 v : Value) (w : World) (h : TbIs w [c0, c1, c2, c3] t) (hw : TbWf t) (hs : SlN w v s.vars) (hl : s.vars.length ≤ 9223372036854775807) :
    Calls Tryd.prog 25 #[.agg #[c0, c1, c2, c3], .agg #[.int .i64 s.pos, .int .i64 s.ver, v]] w fun z w' => z = .returned (.bool (stands t s)) ∧ Below w.heap.size w w' := by
  obtain ⟨d0, d1, d2, d3, e, h0, h1, h2, h3⟩ := h
  cases e
  obtain ⟨a0, cap0, rfl⟩ := sl_len h0
  obtain ⟨a1, cap1, rfl⟩ := sl_len h1
  have HV := Lib.hid (fun (W : World) (hb : Below w.heap.size w W) => areValues_any s.vars v W (Sl.below hs hb) hl)
  obtain ⟨av, capv, rfl⟩ := sl_len hs
  rw [List.length_map, List.length_map]
  rw [List.length_map] at HV ⊢
  have hlS := hw.1.2
  have hlV := hw.2.1.2
  have hd : stands t s = (decide (0 ≤ s.pos ∧ s.pos < (t.states.length : Int) ∧ 0 ≤ s.ver ∧ s.ver ≤ 1099511627776 ∧ (s.vars.length : Int) = t.vars.length) && s.vars.all isVal) := by
    unfold stands
    congr 1
    rw [decide_eq_decide]
    omega
  rw [hd]
  obtain ⟨S, hS⟩ : ∃ N, t.states.length = N := ⟨_, rfl⟩
  obtain ⟨V, hV⟩ : ∃ N, t.vars.length = N := ⟨_, rfl⟩
  obtain ⟨n, hn⟩ : ∃ N, s.vars.length = N := ⟨_, rfl⟩
  obtain ⟨p, hp⟩ : ∃ N, s.pos = N := ⟨_, rfl⟩
  obtain ⟨r, hr⟩ : ∃ N, s.ver = N := ⟨_, rfl⟩
  obtain ⟨B, hB⟩ : ∃ N, s.vars.all isVal = N := ⟨_, rfl⟩
  rw [hB] at HV
  rw [hn] at HV
  rw [hS] at hlS
  rw [hV] at hlV
  rw [hS, hV, hn, hp, hr, hB]
  obtain ⟨W0, hW0⟩ : ∃ W0, w.alloc (.cells #[.slice a0 S cap0, .slice a1 V cap1, c2, c3] 37) = W0 := ⟨_, rfl⟩
  have hB0 : Below w.heap.size w W0 := by rw [← hW0]; exact below_alloc _ _
  have q0 : W0.cell? ⟨w.heap.size, 0, none⟩ = some (.slice a0 S cap0) := by rw [← hW0]; exact box_cell _ _ _ _ _ rfl
  have q1 : W0.cell? ⟨w.heap.size, 1, none⟩ = some (.slice a1 V cap1) := by rw [← hW0]; exact box_cell _ _ _ _ _ rfl
  obtain ⟨W1, hW1⟩ : ∃ W1, W0.alloc (.cells #[.int .i64 p, .int .i64 r, .slice av n capv] 24) = W1 := ⟨_, rfl⟩
  obtain ⟨g, hg⟩ : ∃ g, W0.heap.size = g := ⟨_, rfl⟩
  have hB1 : Below W0.heap.size W0 W1 := by rw [← hW1]; exact below_alloc _ _
  have k0 : W1.cell? ⟨g, 0, none⟩ = some (.int .i64 p) := by rw [← hW1, ← hg]; exact (box3 _ _ _ _ _).1
  have k1 : W1.cell? ⟨g, 1, none⟩ = some (.int .i64 r) := by rw [← hW1, ← hg]; exact (box3 _ _ _ _ _).2.1
  have k2 : W1.cell? ⟨g, 2, none⟩ = some (.slice av n capv) := by rw [← hW1, ← hg]; exact (box3 _ _ _ _ _).2.2
  have q0 := kept_cell hB1 q0
  have q1 := kept_cell hB1 q1
  have HBB := Lib.hid (hB0.trans (hB1.mono hB0.size))
  have HVV := Lib.hid (HV.out W1 HBB.out)
  clear hB0 hB1 hs h0 h1 h2 h3 hw hd HV hS hV hn hp hr hB
  by_cases x0 : 0 ≤ p
  rotate_left
  focus
    have b0 : decide (0 ≤ p) = false := decide_eq_false x0
    rw [decide_eq_false (show ¬ (0 ≤ p ∧ p < (S : Int) ∧ 0 ≤ r ∧ r ≤ 1099511627776 ∧ (n : Int) = V) from fun h => x0 h.1)]
    go_enter Tryd.func25, Tryd.ntmps25
    go_wp2_with fail
    go_ret
    exact ⟨rfl, HBB.out⟩
  by_cases x1 : p < (S : Int)
  rotate_left
  focus
    have b0 : decide (p < (S : Int)) = false := decide_eq_false x1
    rw [decide_eq_false (show ¬ (0 ≤ p ∧ p < (S : Int) ∧ 0 ≤ r ∧ r ≤ 1099511627776 ∧ (n : Int) = V) from fun h => x1 h.2.1)]
    go_enter Tryd.func25, Tryd.ntmps25
    go_wp2_with fail
    go_ret
    exact ⟨rfl, HBB.out⟩
  by_cases x2 : 0 ≤ r
  rotate_left
  focus
    have b0 : decide (0 ≤ r) = false := decide_eq_false x2
    rw [decide_eq_false (show ¬ (0 ≤ p ∧ p < (S : Int) ∧ 0 ≤ r ∧ r ≤ 1099511627776 ∧ (n : Int) = V) from fun h => x2 h.2.2.1)]
    go_enter Tryd.func25, Tryd.ntmps25
    go_wp2_with fail
    go_ret
    exact ⟨rfl, HBB.out⟩
  by_cases x3 : r ≤ 1099511627776
  rotate_left
  focus
    have b0 : decide (r ≤ 1099511627776) = false := decide_eq_false x3
    rw [decide_eq_false (show ¬ (0 ≤ p ∧ p < (S : Int) ∧ 0 ≤ r ∧ r ≤ 1099511627776 ∧ (n : Int) = V) from fun h => x3 h.2.2.2.1)]
    go_enter Tryd.func25, Tryd.ntmps25
    go_wp2_with fail
    go_ret
    exact ⟨rfl, HBB.out⟩
  by_cases x4 : n = V
  rotate_left
  focus
    have b0 : ((n : Int) == (V : Int)) = false := beq_eq_false_iff_ne.2 (by omega)
    rw [decide_eq_false (show ¬ (0 ≤ p ∧ p < (S : Int) ∧ 0 ≤ r ∧ r ≤ 1099511627776 ∧ (n : Int) = V) from fun h => x4 (by omega))]
    go_enter Tryd.func25, Tryd.ntmps25
    go_wp2_with fail
    go_ret
    exact ⟨rfl, HBB.out⟩
  subst x4
  rw [decide_eq_true (show (0 ≤ p ∧ p < (S : Int) ∧ 0 ≤ r ∧ r ≤ 1099511627776 ∧ (n : Int) = n) from ⟨x0, x1, x2, x3, rfl⟩), Bool.true_and]
  go_enter Tryd.func25, Tryd.ntmps25
  go_wp2_with fail
  refine HVV.out.mono ?_
  rintro _ w2 ⟨rfl, rfl⟩
  go_wp2_with fail
  go_ret
  exact ⟨rfl, HBB.out⟩
end Go.Proofs.YtgkniocjlkfhmaaDoor.D
