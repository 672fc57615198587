/-
  Layer 7, the reference: all, Right, Same, Events.
  Layer 7, the reference: the same events.
  Layer 7, the reference: where a stream begins.
-/
import Derived.Test.YtgkniocjlkfhmaaGreatDoorSVk
import Derived.Test.YtgkniocjlkfhmaaGreatDoorSVm
import Derived.Test.YtgkniocjlkfhmaaGreatDoorSVe
import Derived.Test.YtgkniocjlkfhmaaGreatDoorRMe
import Derived.BigQuiet
namespace Go.Proofs.YtgkniocjlkfhmaaGreatDoor.D
open Go Go.RowKit Go.Proofs.YtgkniocjlkfhmaaGreatDoor.B Go.Proofs.YtgkniocjlkfhmaaGreatDoor.K Go.Proofs.YtgkniocjlkfhmaaGreatDoor.E Go.Proofs.YtgkniocjlkfhmaaGreatDoor.R
set_option linter.unusedVariables false
set_option maxRecDepth 100000

set_option maxHeartbeats 1000000 in
theorem all_any (l : List Int) (v : Value) (w : World) (hs : SlN w v l) (hl : l.length ≤ 9223372036854775807) :
    Calls Tryz.prog 54 #[v] w fun e w' => e = .returned (.bool (l.all isVal)) ∧ w = w' := by
  have HS := Lib.hid hs
  obtain ⟨a, cap, rfl, -⟩ := hs
  rw [List.length_map] at HS ⊢
  have HL := Lib.hid hl
  obtain ⟨n, hN⟩ : ∃ n, l.length = n := ⟨_, rfl⟩
  rw [hN] at HL hl
  have HN := Lib.hid hN
  rw [hN] at HS ⊢
  clear hN hl
  go_enter Tryz.func54, Tryz.ntmps54
  go_wp2_with fail
  go_loop [3] (fun k => ∃ (K : Nat), k = .int .i64 (K : Int) ∧ K ≤ n ∧ Hid ((l.take K).all isVal = true)) (fun k => n - (intOf k).toNat)
  case atStart => exact ⟨0, rfl, Nat.zero_le _, rfl⟩
  case round =>
    obtain ⟨K, rfl, hK, HA⟩ := hrel
    by_cases hlt : K < n
    · obtain ⟨x, hx⟩ : ∃ x, l[K]? = some x := ⟨_, List.getElem?_eq_getElem (by rw [HN.out]; exact hlt)⟩
      obtain ⟨b, off, rfl, h1⟩ := HS.out.at (map_at l K x hx)
      have hwK := wrap_next K (Nat.lt_of_lt_of_le hlt HL.out)
      have hltI : (K : Int) < (n : Int) := by omega
      have HVL := Lib.hid (refValue_any x w)
      obtain ⟨B, hB⟩ : ∃ B, isVal x = B := ⟨_, rfl⟩
      rw [hB] at HVL
      have HX := Lib.hid hx
      have HB := Lib.hid hB
      clear hx hB
      go_wp2_with fail
      refine HVL.out.mono ?_
      rintro _ w2 ⟨rfl, rfl⟩
      cases B with
      | false =>
        have HE := Lib.hid (all_not l K x HX.out HB.out)
        go_wp2_with fail
        go_ret
        exact ⟨ret_bool HE.out.symm, rfl⟩
      | true =>
        have hall := all_at l K x HX.out
        rw [HA.out, HB.out] at hall
        have HALL := Lib.hid hall
        clear hall
        go_wp2_with fail
        go_round
        case rel => exact ⟨K + 1, by go_num, by omega, HALL.out⟩
        case measure => simp [intOf]; omega
    · have hall : l.all isVal = true := by rw [← HA.out, List.take_of_length_le (by rw [HN.out]; omega)]
      have HALL := Lib.hid hall
      have hltI : ¬ (K : Int) < (n : Int) := by omega
      clear hall
      go_wp2_with fail
      go_ret
      exact ⟨ret_bool HALL.out.symm, rfl⟩

set_option maxHeartbeats 2000000 in
theorem refRight7_any (t : Tb) (s : Stt) (c0 c1 c2 c3 v : Value) (w : World) (h : TbIs w [c0, c1, c2, c3] t) (hw : TbWf t) (hs : SlN w v s.vars) (hl : s.vars.length ≤ 9223372036854775807) :
    Calls Tryz.prog 26 #[.agg #[c0, c1, c2, c3], .agg #[.int .i64 s.pos, .int .i64 s.ver, v]] w fun z w' => z = .returned (.bool (stands t s)) ∧ Below w.heap.size w w' := by
  obtain ⟨d0, d1, d2, d3, e, h0, h1, h2, h3⟩ := h
  cases e
  obtain ⟨a0, cap0, rfl⟩ := sl_len h0
  obtain ⟨a1, cap1, rfl⟩ := sl_len h1
  have HV := Lib.hid (fun (W : World) (hb : Below w.heap.size w W) => all_any s.vars v W (Sl.below hs hb) hl)
  obtain ⟨av, capv, rfl⟩ := sl_len hs
  rw [List.length_map, List.length_map]
  rw [List.length_map] at HV ⊢
  have hlS := hw.1.2
  have hlV := hw.2.1.2
  have hd : stands t s = (decide (0 ≤ s.pos ∧ s.pos < (t.states.length : Int) ∧ 0 ≤ s.ver ∧ s.ver ≤ 1099511627776 ∧ (s.vars.length : Int) = t.vars.length) && s.vars.all isVal) := by
    unfold stands
    congr 1
    rw [decide_eq_decide]
    omega
  rw [hd]
  obtain ⟨S, hS⟩ : ∃ N, t.states.length = N := ⟨_, rfl⟩
  obtain ⟨V, hV⟩ : ∃ N, t.vars.length = N := ⟨_, rfl⟩
  obtain ⟨n, hn⟩ : ∃ N, s.vars.length = N := ⟨_, rfl⟩
  obtain ⟨p, hp⟩ : ∃ N, s.pos = N := ⟨_, rfl⟩
  obtain ⟨r, hr⟩ : ∃ N, s.ver = N := ⟨_, rfl⟩
  obtain ⟨B, hB⟩ : ∃ N, s.vars.all isVal = N := ⟨_, rfl⟩
  rw [hB] at HV
  rw [hn] at HV
  rw [hS] at hlS
  rw [hV] at hlV
  rw [hS, hV, hn, hp, hr, hB]
  obtain ⟨W0, hW0⟩ : ∃ W0, w.alloc (.cells #[.slice a0 S cap0, .slice a1 V cap1, c2, c3] 26) = W0 := ⟨_, rfl⟩
  have hB0 : Below w.heap.size w W0 := by rw [← hW0]; exact below_alloc _ _
  have q0 : W0.cell? ⟨w.heap.size, 0, none⟩ = some (.slice a0 S cap0) := by rw [← hW0]; exact box_cell _ _ _ _ _ rfl
  have q1 : W0.cell? ⟨w.heap.size, 1, none⟩ = some (.slice a1 V cap1) := by rw [← hW0]; exact box_cell _ _ _ _ _ rfl
  obtain ⟨W1, hW1⟩ : ∃ W1, W0.alloc (.cells #[.int .i64 p, .int .i64 r, .slice av n capv] 41) = W1 := ⟨_, rfl⟩
  obtain ⟨g, hg⟩ : ∃ g, W0.heap.size = g := ⟨_, rfl⟩
  have hB1 : Below W0.heap.size W0 W1 := by rw [← hW1]; exact below_alloc _ _
  have k0 : W1.cell? ⟨g, 0, none⟩ = some (.int .i64 p) := by rw [← hW1, ← hg]; exact (box3 _ _ _ _ _).1
  have k1 : W1.cell? ⟨g, 1, none⟩ = some (.int .i64 r) := by rw [← hW1, ← hg]; exact (box3 _ _ _ _ _).2.1
  have k2 : W1.cell? ⟨g, 2, none⟩ = some (.slice av n capv) := by rw [← hW1, ← hg]; exact (box3 _ _ _ _ _).2.2
  have q0 := kept_cell hB1 q0
  have q1 := kept_cell hB1 q1
  have HBB := Lib.hid (hB0.trans (hB1.mono hB0.size))
  have HVV := Lib.hid (HV.out W1 HBB.out)
  clear hB0 hB1 hs h0 h1 h2 h3 hw hd HV hS hV hn hp hr hB
  by_cases x0 : 0 ≤ p
  rotate_left
  focus
    have b0 : decide (0 ≤ p) = false := decide_eq_false x0
    rw [decide_eq_false (show ¬ (0 ≤ p ∧ p < (S : Int) ∧ 0 ≤ r ∧ r ≤ 1099511627776 ∧ (n : Int) = V) from fun h => x0 h.1)]
    go_enter Tryz.func26, Tryz.ntmps26
    go_wp2_with fail
    go_ret
    exact ⟨rfl, HBB.out⟩
  by_cases x1 : p < (S : Int)
  rotate_left
  focus
    have b0 : decide (p < (S : Int)) = false := decide_eq_false x1
    rw [decide_eq_false (show ¬ (0 ≤ p ∧ p < (S : Int) ∧ 0 ≤ r ∧ r ≤ 1099511627776 ∧ (n : Int) = V) from fun h => x1 h.2.1)]
    go_enter Tryz.func26, Tryz.ntmps26
    go_wp2_with fail
    go_ret
    exact ⟨rfl, HBB.out⟩
  by_cases x2 : 0 ≤ r
  rotate_left
  focus
    have b0 : decide (0 ≤ r) = false := decide_eq_false x2
    rw [decide_eq_false (show ¬ (0 ≤ p ∧ p < (S : Int) ∧ 0 ≤ r ∧ r ≤ 1099511627776 ∧ (n : Int) = V) from fun h => x2 h.2.2.1)]
    go_enter Tryz.func26, Tryz.ntmps26
    go_wp2_with fail
    go_ret
    exact ⟨rfl, HBB.out⟩
  by_cases x3 : r ≤ 1099511627776
  rotate_left
  focus
    have b0 : decide (r ≤ 1099511627776) = false := decide_eq_false x3
    rw [decide_eq_false (show ¬ (0 ≤ p ∧ p < (S : Int) ∧ 0 ≤ r ∧ r ≤ 1099511627776 ∧ (n : Int) = V) from fun h => x3 h.2.2.2.1)]
    go_enter Tryz.func26, Tryz.ntmps26
    go_wp2_with fail
    go_ret
    exact ⟨rfl, HBB.out⟩
  by_cases x4 : n = V
  rotate_left
  focus
    have b0 : ((n : Int) == (V : Int)) = false := beq_eq_false_iff_ne.2 (by omega)
    rw [decide_eq_false (show ¬ (0 ≤ p ∧ p < (S : Int) ∧ 0 ≤ r ∧ r ≤ 1099511627776 ∧ (n : Int) = V) from fun h => x4 (by omega))]
    go_enter Tryz.func26, Tryz.ntmps26
    go_wp2_with fail
    go_ret
    exact ⟨rfl, HBB.out⟩
  subst x4
  rw [decide_eq_true (show (0 ≤ p ∧ p < (S : Int) ∧ 0 ≤ r ∧ r ≤ 1099511627776 ∧ (n : Int) = n) from ⟨x0, x1, x2, x3, rfl⟩), Bool.true_and]
  go_enter Tryz.func26, Tryz.ntmps26
  go_wp2_with fail
  refine HVV.out.mono ?_
  rintro _ w2 ⟨rfl, rfl⟩
  go_wp2_with fail
  go_ret
  exact ⟨rfl, HBB.out⟩

set_option maxHeartbeats 1000000 in
theorem sameS_any (s : Stt) (v v' : Value) (w : World) (h : SlN w v s.vars) (h' : SlN w v' s.vars) (hl : s.vars.length ≤ 4611686018427387904) :
    Calls Tryz.prog 22 #[.agg #[.int .i64 s.pos, .int .i64 s.ver, v], .agg #[.int .i64 s.pos, .int .i64 s.ver, v']] w fun z w' => z = .returned (.bool true) ∧ Below w.heap.size w w' := by
  have HI := Lib.hid (fun (W : World) (hb : Below w.heap.size w W) => V.ints_same v v' s.vars W hl (Sl.below h hb) (Sl.below h' hb))
  obtain ⟨p, hp⟩ : ∃ N, s.pos = N := ⟨_, rfl⟩
  obtain ⟨r, hr⟩ : ∃ N, s.ver = N := ⟨_, rfl⟩
  rw [hp, hr]
  obtain ⟨W0, hW0⟩ : ∃ W0, w.alloc (.cells #[.int .i64 p, .int .i64 r, v] 41) = W0 := ⟨_, rfl⟩
  obtain ⟨g, hg⟩ : ∃ g, W0.heap.size = g := ⟨_, rfl⟩
  obtain ⟨W1, hW1⟩ : ∃ W1, W0.alloc (.cells #[.int .i64 p, .int .i64 r, v'] 41) = W1 := ⟨_, rfl⟩
  have hB0 : Below w.heap.size w W0 := by rw [← hW0]; exact below_alloc _ _
  have hB1 : Below W0.heap.size W0 W1 := by rw [← hW1]; exact below_alloc _ _
  have q0 : W0.cell? ⟨w.heap.size, 0, none⟩ = some (.int .i64 p) := by rw [← hW0]; exact (box3 _ _ _ _ _).1
  have q1 : W0.cell? ⟨w.heap.size, 1, none⟩ = some (.int .i64 r) := by rw [← hW0]; exact (box3 _ _ _ _ _).2.1
  have q2 : W0.cell? ⟨w.heap.size, 2, none⟩ = some v := by rw [← hW0]; exact (box3 _ _ _ _ _).2.2
  have q0 := kept_cell hB1 q0
  have q1 := kept_cell hB1 q1
  have q2 := kept_cell hB1 q2
  have k0 : W1.cell? ⟨g, 0, none⟩ = some (.int .i64 p) := by rw [← hW1, ← hg]; exact (box3 _ _ _ _ _).1
  have k1 : W1.cell? ⟨g, 1, none⟩ = some (.int .i64 r) := by rw [← hW1, ← hg]; exact (box3 _ _ _ _ _).2.1
  have k2 : W1.cell? ⟨g, 2, none⟩ = some v' := by rw [← hW1, ← hg]; exact (box3 _ _ _ _ _).2.2
  have hb := hB0.trans (hB1.mono hB0.size)
  have HB := Lib.hid hb
  have H := Lib.hid (HI.out W1 hb)
  clear hB0 hB1 hb HI h h' hp hr
  go_enter Tryz.func22, Tryz.ntmps22
  go_wp2_with fail
  refine H.out.mono ?_
  rintro _ w2 ⟨rfl, hb2⟩
  have HB2 := Lib.hid (HB.out.trans (hb2.mono HB.out.size))
  clear hb2
  go_wp2_with fail
  go_ret
  exact ⟨rfl, HB2.out⟩

set_option maxHeartbeats 2000000 in
theorem lawRight_any (t : Tb) (c0 c1 c2 c3 : Value) (w : World) (h : TbIs w [c0, c1, c2, c3] t) (hw : TbWf t) :
    Calls Tryz.prog 18 #[.agg #[c0, c1, c2, c3]] w fun z w' => z = .returned (.bool (mayB t)) ∧ Below w.heap.size w w' := by
  have HC := Lib.hid (fun (W : World) (hb : Below w.heap.size w W) => refCheck5_any t c0 c1 c2 c3 W (h.below hb) hw)
  obtain ⟨d0, d1, d2, d3, e, h0, h1, h2, h3⟩ := h
  cases e
  obtain ⟨W0, hW0⟩ : ∃ W0, w.alloc (.cells #[c0, c1, c2, c3] 26) = W0 := ⟨_, rfl⟩
  have hB0 : Below w.heap.size w W0 := by rw [← hW0]; exact below_alloc _ _
  have q0 : W0.cell? ⟨w.heap.size, 0, none⟩ = some c0 := by rw [← hW0]; exact box_cell _ _ _ _ _ rfl
  have q1 : W0.cell? ⟨w.heap.size, 1, none⟩ = some c1 := by rw [← hW0]; exact box_cell _ _ _ _ _ rfl
  have q2 : W0.cell? ⟨w.heap.size, 2, none⟩ = some c2 := by rw [← hW0]; exact box_cell _ _ _ _ _ rfl
  have q3 : W0.cell? ⟨w.heap.size, 3, none⟩ = some c3 := by rw [← hW0]; exact box_cell _ _ _ _ _ rfl
  have H := Lib.hid (HC.out W0 hB0)
  have HB0 := Lib.hid hB0
  unfold mayB
  obtain ⟨⟨e0, e1, e2, e3⟩, hf⟩ : ∃ f, chk5 t = f := ⟨_, rfl⟩
  rw [hf, show Ft.v (e0, e1, e2, e3) = .agg #[.int .i64 e0, .int .i64 e1, .int .i64 e2, .int .i64 e3] from rfl] at H
  rw [hf]
  have hcase : (e0 = 0 ∧ e1 = 0 ∧ e2 = 0 ∧ e3 = 0) ∨ e0 ≠ 0 ∨ (e0 = 0 ∧ e1 ≠ 0) ∨ (e0 = 0 ∧ e1 = 0 ∧ e2 ≠ 0) ∨ (e0 = 0 ∧ e1 = 0 ∧ e2 = 0 ∧ e3 ≠ 0) := by omega
  have hn : ∀ {x : Prop} [Decidable x], ¬ x → decide x = false := fun h => decide_eq_false h
  clear HC h0 h1 h2 h3 hw hf hB0
  rcases hcase with ⟨rfl, rfl, rfl, rfl⟩ | h0 | ⟨rfl, h1⟩ | ⟨rfl, rfl, h2⟩ | ⟨rfl, rfl, rfl, h3⟩
  · clear hn
    go_enter Tryz.func18, Tryz.ntmps18
    go_wp2_with fail
    refine H.out.mono ?_
    rintro _ w1 ⟨rfl, hb⟩
    have HB1 := Lib.hid (HB0.out.trans (hb.mono HB0.out.size))
    clear hb
    go_wp2_with fail
    go_ret
    exact ⟨rfl, HB1.out⟩
  · have hb0 : (e0 == 0) = false := beq_eq_false_iff_ne.2 h0
    rw [hn (fun e => h0 (congrArg (·.1) e))]
    clear hn h0
    go_enter Tryz.func18, Tryz.ntmps18
    go_wp2_with fail
    refine H.out.mono ?_
    rintro _ w1 ⟨rfl, hb⟩
    have HB1 := Lib.hid (HB0.out.trans (hb.mono HB0.out.size))
    clear hb
    go_wp2_with fail
    go_ret
    exact ⟨rfl, HB1.out⟩
  · have hb0 : (e1 == 0) = false := beq_eq_false_iff_ne.2 h1
    rw [hn (fun e => h1 (congrArg (·.2.1) e))]
    clear hn h1
    go_enter Tryz.func18, Tryz.ntmps18
    go_wp2_with fail
    refine H.out.mono ?_
    rintro _ w1 ⟨rfl, hb⟩
    have HB1 := Lib.hid (HB0.out.trans (hb.mono HB0.out.size))
    clear hb
    go_wp2_with fail
    go_ret
    exact ⟨rfl, HB1.out⟩
  · have hb0 : (e2 == 0) = false := beq_eq_false_iff_ne.2 h2
    rw [hn (fun e => h2 (congrArg (·.2.2.1) e))]
    clear hn h2
    go_enter Tryz.func18, Tryz.ntmps18
    go_wp2_with fail
    refine H.out.mono ?_
    rintro _ w1 ⟨rfl, hb⟩
    have HB1 := Lib.hid (HB0.out.trans (hb.mono HB0.out.size))
    clear hb
    go_wp2_with fail
    go_ret
    exact ⟨rfl, HB1.out⟩
  · have hb0 : (e3 == 0) = false := beq_eq_false_iff_ne.2 h3
    rw [hn (fun e => h3 (congrArg (·.2.2.2) e))]
    clear hn h3
    go_enter Tryz.func18, Tryz.ntmps18
    go_wp2_with fail
    refine H.out.mono ?_
    rintro _ w1 ⟨rfl, hb⟩
    have HB1 := Lib.hid (HB0.out.trans (hb.mono HB0.out.size))
    clear hb
    go_wp2_with fail
    go_ret
    exact ⟨rfl, HB1.out⟩
end Go.Proofs.YtgkniocjlkfhmaaGreatDoor.D

namespace Go.Proofs.YtgkniocjlkfhmaaGreatDoor.D
open Go Go.RowKit Go.Proofs.YtgkniocjlkfhmaaGreatDoor.B Go.Proofs.YtgkniocjlkfhmaaGreatDoor.K Go.Proofs.YtgkniocjlkfhmaaGreatDoor.E Go.Proofs.YtgkniocjlkfhmaaGreatDoor.R
set_option linter.unusedVariables false
set_option maxRecDepth 100000

set_option maxHeartbeats 4000000 in
theorem sameE_any (l : List Ev) (v v' : Value) (w : World) (h : EvsIs w v l) (h' : EvsIs w v' l) (hl : l.length ≤ 9223372036854775807) (hl8 : ∀ e ∈ l, e.vars.length ≤ 4611686018427387904) :
    Calls Tryz.prog 21 #[v, v'] w fun z w' => z = .returned (.bool true) ∧ Below w.heap.size w w' := by
  obtain ⟨a, cap, rfl, h⟩ := h.open
  obtain ⟨a', cap', rfl, h'⟩ := h'.open
  have HS := Lib.hid h
  have HS' := Lib.hid h'
  have HL8 := Lib.hid hl8
  obtain ⟨N, hN⟩ : ∃ N, l.length = N := ⟨_, rfl⟩
  rw [hN] at hl HS HS' ⊢
  have HL := Lib.hid hl
  have HN := Lib.hid hN
  clear hN hl h h' hl8
  go_enter Tryz.func21, Tryz.ntmps21
  go_wp2_with fail
  go_loopw [5] (fun k wr => ∃ (K : Nat), k = .int .i64 (K : Int) ∧ K ≤ N ∧ Hid (Below w.heap.size w wr)) (fun k _ => N - (intOf k).toNat)
  case atStart => exact ⟨0, rfl, Nat.zero_le _, Lib.hid (Below.refl _ _)⟩
  case round =>
    obtain ⟨K, rfl, hK, HB⟩ := hrel
    by_cases hlt : K < N
    · have hltI : (K : Int) < (N : Int) := by omega
      obtain ⟨e, he⟩ : ∃ e, l[K]? = some e := ⟨_, List.getElem?_eq_getElem (by rw [HN.out]; exact hlt)⟩
      obtain ⟨b, off, ea, cs, -, ⟨x, rfl, hx⟩, hc⟩ := HS.out.at he
      obtain ⟨b', off', ea', cs', -, ⟨x', rfl, hx'⟩, hc'⟩ := HS'.out.at he
      subst ea ea'
      obtain ⟨p, hp⟩ : ∃ p, e.pos = p := ⟨_, rfl⟩
      have k0 := kept_cell HB.out (hc 0 _ rfl)
      have k1 := kept_cell HB.out (hc 1 _ rfl)
      have k0 : wr.cell? ⟨b, off + K * 2, none⟩ = some (.int .i64 e.pos) := k0
      have j0 := kept_cell HB.out (hc' 0 _ rfl)
      have j1 := kept_cell HB.out (hc' 1 _ rfl)
      have j0 : wr.cell? ⟨b', off' + K * 2, none⟩ = some (.int .i64 e.pos) := j0
      rw [hp] at k0 j0
      have hin := HL8.out e (List.mem_of_getElem? he)
      have HI := Lib.hid (fun (W : World) (hb : Below wr.heap.size wr W) => V.ints_same x x' e.vars W hin (Sl.below hx (HB.out.trans (hb.mono HB.out.size))) (Sl.below hx' (HB.out.trans (hb.mono HB.out.size))))
      have HC := Lib.hid (fun (W : World) (hS : W.cell? ⟨b, off + K * 2, none⟩ = some (.int .i64 p) ∧ W.cell? ⟨b, off + K * 2 + 1, none⟩ = some x ∧ W.cell? ⟨b', off' + K * 2, none⟩ = some (.int .i64 p) ∧ W.cell? ⟨b', off' + K * 2 + 1, none⟩ = some x' ∧ Below wr.heap.size wr W) => (HI.out W hS.2.2.2.2).mono (fun z w' (hz : z = .returned (.bool true) ∧ Below W.heap.size W w') => show z = .returned (.bool true) ∧ w'.cell? ⟨b, off + K * 2, none⟩ = some (.int .i64 p) ∧ w'.cell? ⟨b, off + K * 2 + 1, none⟩ = some x ∧ w'.cell? ⟨b', off' + K * 2, none⟩ = some (.int .i64 p) ∧ w'.cell? ⟨b', off' + K * 2 + 1, none⟩ = some x' ∧ Below wr.heap.size wr w' from ⟨hz.1, kept_cell hz.2 hS.1, kept_cell hz.2 hS.2.1, kept_cell hz.2 hS.2.2.1, kept_cell hz.2 hS.2.2.2.1, hS.2.2.2.2.trans (hz.2.mono hS.2.2.2.2.size)⟩))
      have HSD := Lib.hid (show wr.drew.cell? ⟨b, off + K * 2, none⟩ = some (.int .i64 p) ∧ wr.drew.cell? ⟨b, off + K * 2 + 1, none⟩ = some x ∧ wr.drew.cell? ⟨b', off' + K * 2, none⟩ = some (.int .i64 p) ∧ wr.drew.cell? ⟨b', off' + K * 2 + 1, none⟩ = some x' ∧ Below wr.heap.size wr wr.drew from ⟨k0, k1, j0, j1, (Below.refl _ _).drew⟩)
      have hwK := wrap_next K (Nat.lt_of_lt_of_le hlt HL.out)
      clear he hc hc' hx hx' hp hin k0 k1 j0 j1 HI
      go_upto_region 6 with fail
      have hS0 : wr.drew.cell? ⟨b, off + K * 2, none⟩ = some (.int .i64 p) ∧ wr.drew.cell? ⟨b, off + K * 2 + 1, none⟩ = some x ∧ wr.drew.cell? ⟨b', off' + K * 2, none⟩ = some (.int .i64 p) ∧ wr.drew.cell? ⟨b', off' + K * 2 + 1, none⟩ = some x' ∧ Below wr.heap.size wr wr.drew := HSD.out
      go_region_held3 (fun Wz => Wz.cell? ⟨b, off + K * 2, none⟩ = some (.int .i64 p) ∧ Wz.cell? ⟨b, off + K * 2 + 1, none⟩ = some x ∧ Wz.cell? ⟨b', off' + K * 2, none⟩ = some (.int .i64 p) ∧ Wz.cell? ⟨b', off' + K * 2 + 1, none⟩ = some x' ∧ Below wr.heap.size wr Wz) (first | exact hS0 | assumption) (first | (go_at_call 44; ((with_reducible refine (HC.out _ ?_).mono ?_); (first | exact hS0 | assumption)); rintro _ w2 ⟨rfl, hS1⟩))
      have HB2 := Lib.hid (HB.out.trans (hS1.2.2.2.2.mono HB.out.size))
      clear hS1 hS0 HSD HC
      go_wp2_with fail
      go_round
      case rel => exact ⟨K + 1, by go_num, by omega, HB2⟩
      case measure => simp [intOf]; omega
    · have hltI : ¬ (K : Int) < (N : Int) := by omega
      go_wp2_with fail
      go_ret
      exact ⟨rfl, HB.out⟩
end Go.Proofs.YtgkniocjlkfhmaaGreatDoor.D

namespace Go.Proofs.YtgkniocjlkfhmaaGreatDoor.D
open Go Go.RowKit Go.Proofs.YtgkniocjlkfhmaaGreatDoor.B Go.Proofs.YtgkniocjlkfhmaaGreatDoor.K Go.Proofs.YtgkniocjlkfhmaaGreatDoor.E Go.Proofs.YtgkniocjlkfhmaaGreatDoor.R
set_option linter.unusedVariables false
set_option maxRecDepth 100000

section
variable {P : Program} {w : World}
/-- An append of what may be nil onto a row of the call's own, at the list of a plain region's operations. -/
theorem wpList_append_all {ops : Array Oper} {rest : List Oper} {o : Oper} {a : Act} {Q : Exit → Act → World → Prop} (hgd : o.guard = none) (s x : Operand) (t : TypeId)
    (ho : o.op = .call { callee := .builtin .append, args := #[s, x], argTypes := #[t, t] })
    (base : Nat) (e : TypeId) (i : TypeInfo) (z : Value) (size bytes : Nat) (ht : P.underlying t = some (.slice e)) (hi : P.info? e = some i) (hz : i.zero = some z)
    (hsize : i.size = size) (hby : i.bytes = bytes) (hzs : z.cells.size = size) (hsz : 0 < size)
    (v : Value) (n : Nat) (xs : List Value) (hs : a.eval s = v) (hown : w.ownsRow base e size v n xs)
    (ao : Option Addr) (m c : Nat) (news : List Value) (hx : a.eval x = .slice ao m c) (hl : news.length = m * size) (hnone : ao = none → m = 0) (hnews : ∀ ad, ao = some ad → ∀ j u, news[j]? = some u → w.cell? (ad.add j) = some u) (h1 : ∀ u ∈ news, u.oneCell' = true)
    (h63 : n + m ≤ maxLen) (hbytes : (n + m) * bytes ≤ 140737488355328) (hbase : base ≤ w.heap.size)
    (h : ∀ v' w', w'.ownsRow base e size v' (n + m) (xs ++ news) → w.grownBy w' v.ownBlock → wpList P ops Q rest (a.put o.dst v') w') : wpList P ops Q (o :: rest) a w := by
  refine wpList_plain hgd fun K hK => ?_
  cases ao with
  | some ad =>
    obtain ⟨v', w', hr, h2, h3, _, h5⟩ := run_append_own_at (P := P) w base t o.type e i z size bytes ht hi hz hsize hby hzs hsz v n xs hown ad m c news hl (hnews ad rfl) h1 h63 hbytes hbase
    unfold Oper.wp execOp
    simp only [ho, resolve, invoke, builtin, Sem.run_bind, Sem.run_pure, Result.andThen_ok, List.map_toArray, List.map_cons, List.map_nil, hs, hx, hr]
    exact hK _ _ (h v' w' h2 h3)
  | none =>
    obtain rfl := hnone rfl
    have hn : news = [] := List.eq_nil_of_length_eq_zero (by simpa using hl)
    subst hn
    have hr := run_append_none_cap (P := P) base t o.type e i size ht hi v n c xs hown
    unfold Oper.wp execOp
    simp only [ho, resolve, invoke, builtin, Sem.run_bind, Sem.run_pure, Result.andThen_ok, List.map_toArray, List.map_cons, List.map_nil, hs, hx, hr]
    exact hK _ _ (h v w (by simpa using hown) (World.grownBy.refl _ _))
end

theorem sl_none {w : World} {a : Option Addr} {n cap : Nat} {xs : List Value} (h : Sl w (.slice a n cap) xs) (hn : xs.length = n) : a = none → n = 0 := by
  intro e
  subst e
  rcases Nat.eq_zero_or_pos n with h0 | h0
  · exact h0
  · obtain ⟨b, off, e, _⟩ := h.at (List.getElem?_eq_getElem (by omega : 0 < xs.length))
    cases e
theorem sl_news {w : World} {a : Option Addr} {n cap : Nat} {xs : List Value} (h : Sl w (.slice a n cap) xs) : ∀ ad, a = some ad → ∀ (j : Nat) u, xs[j]? = some u → w.cell? (ad.add j) = some u := by
  intro ad e j u hu
  obtain ⟨b, off, e', hc⟩ := h.at hu
  rw [e] at e'; cases e'
  rw [show (⟨b, off, none⟩ : Addr).add j = ⟨b, off + j, none⟩ by unfold Addr.add; split <;> simp_all]
  exact hc

theorem s3_grown {w w' : World} {g q : Nat} {a b c : Value} (h : S3 w g a b c) (hg : w.grownBy w' (some q)) (hne : g ≠ q) : S3 w' g a b c :=
  (hg.block g (Array.getElem?_eq_some_iff.1 h).1 (fun e => hne (by cases e; rfl))).trans h

set_option maxHeartbeats 2000000 in
theorem refNew_any (t : Tb) (c0 c1 c2 c3 : Value) (w : World) (h : TbIs w [c0, c1, c2, c3] t) (hl : t.start.length * 8 ≤ 140737488355328) :
    Calls Tryz.prog 25 #[.agg #[c0, c1, c2, c3]] w (StOut ⟨0, 0, t.start⟩ w) := by
  have hx : ∃ d0 d1 d2 d3, [c0, c1, c2, c3] = [d0, d1, d2, d3] ∧ SlN w d2 t.start := by
    obtain ⟨d0, d1, d2, d3, e, h0, h1, h2, h3⟩ := h
    exact ⟨d0, d1, d2, d3, e, h2⟩
  obtain ⟨d0, d1, d2, d3, e, h2⟩ := hx
  cases e
  have HST := Lib.hid h2
  obtain ⟨a, cap, rfl⟩ := sl_len h2
  obtain ⟨n, hn⟩ : ∃ n, (List.map (fun n => Value.int IntKind.i64 n) t.start).length = n := ⟨_, rfl⟩
  rw [hn] at HST ⊢
  have hn' : t.start.length = n := by rw [← hn, List.length_map]
  obtain ⟨i0, hi, hz0, hz1, hz2⟩ := info3 int_infos
  obtain ⟨W0, hW0⟩ : ∃ W0, w.alloc (.cells #[c0, c1, .slice a n cap, c3] 26) = W0 := ⟨_, rfl⟩
  have hB0 : Below w.heap.size w W0 := by rw [← hW0]; exact below_alloc _ _
  have p2 : W0.cell? ⟨w.heap.size, 2, none⟩ = some (.slice a n cap) := by rw [← hW0]; exact box_cell _ _ _ _ _ rfl
  obtain ⟨g, hg⟩ : ∃ g, W0.heap.size = g := ⟨_, rfl⟩
  obtain ⟨W1, hW1⟩ : ∃ W1, W0.alloc (.cells #[.int .i64 0, .int .i64 0, .slice none 0 0] 41) = W1 := ⟨_, rfl⟩
  have hB1 : Below W0.heap.size W0 W1 := by rw [← hW1]; exact below_alloc _ _
  have hs3 : S3 W1 g (.int .i64 0) (.int .i64 0) (.slice none 0 0) := by rw [← hW1, ← hg]; exact S3.new _ _ _ _
  have hb := hB0.trans (hB1.mono hB0.size)
  have hgw : w.heap.size ≤ g := by rw [← hg]; exact hB0.size
  have hgl : g < W1.heap.size := (Array.getElem?_eq_some_iff.1 hs3).1
  have p2 := kept_cell hB1 p2
  obtain ⟨q, hq⟩ : ∃ q, W1.heap.size = q := ⟨_, rfl⟩
  obtain ⟨W2, hW2⟩ : ∃ W2, W1.alloc (.cells #[] 3) = W2 := ⟨_, rfl⟩
  have hB2 : Below W1.heap.size W1 W2 := by rw [← hW2]; exact below_alloc _ _
  have p2 := kept_cell hB2 p2
  have hown : W2.ownsRow q 3 1 (.slice (some ⟨q, 0, none⟩) 0 0) 0 [] := by rw [← hW2, ← hq]; exact own_empty5 W1 W1.heap.size 3 1 (Nat.le_refl _)
  have hb2 := hb.trans (hB2.mono hb.size)
  have HOWN := Lib.hid hown
  have HS2 := Lib.hid (hs3.below hB2)
  have HB2 := Lib.hid hb2
  have HSL := Lib.hid (show Sl W2 (.slice a n cap) (nums t.start) from Sl.below HST.out hb2)
  have HGQ := Lib.hid (show w.heap.size ≤ g ∧ g < q from ⟨hgw, by rw [← hq]; exact hgl⟩)
  have HL0 := Lib.hid (show (nums t.start).length = n * 1 by rw [nums_length, hn', Nat.mul_one])
  have HL1 := Lib.hid (show 0 + n ≤ maxLen by unfold maxLen; omega)
  have HL2 := Lib.hid (show (0 + n) * 8 ≤ 140737488355328 by omega)
  have HL3 := Lib.hid (show q ≤ W2.heap.size by rw [← hq]; exact hB2.size)
  have HN := Lib.hid hn'
  clear h h2 hn hn' hl hB0 hB1 hB2 hb hb2 hs3 hgw hgl hown HST
  go_enter Tryz.func25, Tryz.ntmps25
  go_wp2_with (at_builtin; go_must (refine wpList_append_all rfl _ _ 23 rfl q 3 i0 (.int .i64 0) 1 8 Tryz.underlying23 hi hz0 hz1 hz2 rfl (by decide) _ 0 [] rfl HOWN.out a n cap (nums t.start) rfl HL0.out (sl_none HSL.out (by rw [nums_length]; exact HN.out)) (sl_news HSL.out) (nums_one _) HL1.out HL2.out HL3.out ?_); intro v' w3 hown3 hgr3; (obtain ⟨av', cv', rfl⟩ := own_shape5 hown3; have HS3 := Lib.hid (s3_grown (q := q) HS2.out hgr3 (by have := HGQ.out.2; omega)); have HO3 := Lib.hid hown3; have HB3 := Lib.hid (Tch.below (B := q) hgr3 HB2.out HB2.out.size (by have := HGQ.out; omega)); obtain ⟨⟨k0, f0⟩, ⟨k1, f1⟩, ⟨k2, f2⟩⟩ := HS3.out.cells; clear hown3 hgr3))
  refine s3_end _ _ _ rfl rfl rfl (HS3.out.set _ _ _) ⟨_, rfl, ?_, below_set3 HB3.out HGQ.out.1 _ _ _⟩
  have ho := HO3.out
  rw [Nat.zero_add, List.nil_append] at ho
  have hlt := HGQ.out.2
  exact Sl.owns (own_set5 (own_set5 (own_set5 ho hlt) hlt) hlt)
end Go.Proofs.YtgkniocjlkfhmaaGreatDoor.D
