/-
  Layer 10, the document's answers: the bytes of items, verdicts and filters.
-/
import Derived.Test.YtebglkpejdoggaaGreatP10RefD
namespace Go.Proofs.YtebglkpejdoggaaGreat.C10
open Go Go.RowKit Go.Proofs Go.Proofs.YtebglkpejdoggaaGreat.B Go.Proofs.YtebglkpejdoggaaGreat.K Go.Proofs.YtebglkpejdoggaaGreat.P8
set_option linter.unusedVariables false
set_option maxRecDepth 100000

theorem layIt_len (x : It) (h : ItWf x) : (layIt x).length ≤ 400000000000000 := by
  obtain ⟨h0, h1, h2, h3⟩ := h
  unfold layIt
  rw [List.length_append, List.length_append]
  have e1 := textL_len x.stream h0
  have e2 := numsL_len [x.st.pos, x.st.ver] (by intro y hy; simp at hy; rcases hy with rfl | rfl <;> assumption)
  have e3 := listL_len x.st.vars h3
  have e4 := h3.2
  unfold TxWf at h0
  simp only [List.length_cons, List.length_nil] at e2
  omega
theorem layVd_len (x : Vd) (h : VdWf x) : (layVd x).length ≤ 20 := by
  have e2 := numsL_len [x.seq, x.code] (by intro y hy; simp at hy; rcases hy with rfl | rfl; exact h.1; exact h.2)
  exact e2
theorem sln_drew {W : World} {v : Value} {l : List Int} (h : SlN W v l) : SlN W.drew v l := h
theorem text_len2 (x : List UInt8) (h : TxWf x) : (textL x).length ≤ 200000000000000 := by
  have e1 := textL_len x h
  unfold TxWf at h
  omega

set_option maxHeartbeats 4000000 in
theorem layFilt_any (L : Low) (l : List (List UInt8)) (v : Value) (w : World) (h : SlT w v l) (hw : FlWf l) (hl : l.length ≤ 40) :
    Calls Tryz.prog 16 #[v] w fun e w' => e = .returned (.string (str (layFilt l))) ∧ Below w.heap.size w w' := by
  obtain ⟨a, cap, rfl, hc⟩ := h.open
  obtain ⟨N, hN⟩ : ∃ N, l.length = N := ⟨_, rfl⟩
  have HC := Lib.hid hc
  have HN := Lib.hid hN
  have HW := Lib.hid hw
  have hn : N ≤ 40 := by rw [← hN]; exact hl
  have H0 := Lib.hid (fun W => L.number (N : Int) W ⟨by omega, by omega⟩)
  have hz := num_len (N : Int) ⟨by omega, by omega⟩
  have HD := Lib.hid (show layFilt l = num (N : Int) ++ l.flatMap textL by rw [← hN]; rfl)
  rw [hN]
  generalize layFilt l = R at HD ⊢
  generalize num (N : Int) = X0 at H0 hz HD
  clear hc h hN hw hl
  go_enter Tryz.func16, Tryz.ntmps16
  go_wp2_with fail
  refine (H0.out _).mono ?_
  rintro _ w1 ⟨rfl, hb1⟩
  go_wp2_with fail
  go_loopw [3, 4] (fun o i wr => ∃ K : Nat, i = .int .i64 (K : Int) ∧ K ≤ N ∧ o = .string (str (X0 ++ (l.take K).flatMap textL)) ∧ Hid (Below w.heap.size w wr)) (fun _ i _ => N - (intOf i).toNat)
  case atStart => exact ⟨0, rfl, Nat.zero_le _, by rw [List.take_zero, List.flatMap_nil, List.append_nil], Lib.hid hb1⟩
  case round =>
    obtain ⟨K, rfl, hK, rfl, HB⟩ := hrel
    by_cases hlt : K < N
    · have hltI : (K : Int) < (N : Int) := by omega
      have hk0 : 0 ≤ (K : Int) := by omega
      have hw1 : IntKind.i64.wrap ((K : Int) + 1) = (K : Int) + 1 := IntWalk.i64_in _ (by omega)
      obtain ⟨x, hx⟩ : ∃ x, l[K]? = some x := ⟨_, List.getElem?_eq_getElem (by rw [HN.out]; exact hlt)⟩
      obtain ⟨b, off, rfl, hcell⟩ := HC.out K x hx
      have hc1 := kept_cell HB.out hcell
      have hxw := HW.out.1 x (List.mem_of_getElem? hx)
      have hl1 := flat_len textL 200000000000000 (l.take K) fun y hy => text_len2 y (HW.out.1 y (List.mem_of_mem_take hy))
      rw [List.length_take] at hl1
      have hl2 := textL_len x hxw
      have hl3 : x.length ≤ 140737488355328 := hxw
      have HX := Lib.hid (show X0 ++ (l.take (K + 1)).flatMap textL = X0 ++ (l.take K).flatMap textL ++ textL x by rw [flat_take textL hx, List.append_assoc])
      have e1 := add_str (X0 ++ (l.take K).flatMap textL) (textL x) (by rw [List.length_append]; omega)
      have C1 := Lib.hid (fun W => text_any L x W hxw)
      generalize X0 ++ (l.take K).flatMap textL = T0 at *
      generalize textL x = X1 at *
      clear hxw hx hl1 hl2 hl3
      go_wp2_with fail
      refine (C1.out _).mono ?_
      rintro _ w2 ⟨rfl, hb2⟩
      have HB2 := HB.out.trans (hb2.mono HB.out.size)
      clear hb2
      go_wp2_with fail
      go_roundw
      case rel => exact ⟨K + 1, by go_num, by omega, by rw [HX.out], Lib.hid HB2⟩
      case measure => simp [intOf]; omega
    · have hltI : ¬ (K : Int) < (N : Int) := by omega
      have hd : X0 ++ (l.take K).flatMap textL = R := by rw [HD.out, List.take_of_length_le (by rw [HN.out]; omega)]
      rw [hd]
      go_wp2_with fail
      go_ret
      exact ⟨rfl, HB.out⟩

set_option maxHeartbeats 4000000 in
theorem layVds_any (L : Low) (l : List Vd) (v : Value) (w : World) (h : VdsIs w v l) (hw : VdsWf l) (hl : l.length ≤ 1000) :
    Calls Tryz.prog 14 #[v] w fun e w' => e = .returned (.string (str (layVds l))) ∧ Below w.heap.size w w' := by
  obtain ⟨a, cap, rfl, hc⟩ := h.open
  obtain ⟨N, hN⟩ : ∃ N, l.length = N := ⟨_, rfl⟩
  have HC := Lib.hid hc
  have HN := Lib.hid hN
  have HW := Lib.hid hw
  have hn : N ≤ 1000 := by rw [← hN]; exact hl
  have H0 := Lib.hid (fun W => L.number (N : Int) W ⟨by omega, by omega⟩)
  have hz := num_len (N : Int) ⟨by omega, by omega⟩
  have HD := Lib.hid (show layVds l = num (N : Int) ++ l.flatMap layVd by rw [← hN]; rfl)
  rw [hN]
  generalize layVds l = R at HD ⊢
  generalize num (N : Int) = X0 at H0 hz HD
  clear hc h hN hw hl
  go_enter Tryz.func14, Tryz.ntmps14
  go_wp2_with fail
  refine (H0.out _).mono ?_
  rintro _ w1 ⟨rfl, hb1⟩
  go_wp2_with fail
  go_loopw [3, 4] (fun o i wr => ∃ K : Nat, i = .int .i64 (K : Int) ∧ K ≤ N ∧ o = .string (str (X0 ++ (l.take K).flatMap layVd)) ∧ Hid (Below w.heap.size w wr)) (fun _ i _ => N - (intOf i).toNat)
  case atStart => exact ⟨0, rfl, Nat.zero_le _, by rw [List.take_zero, List.flatMap_nil, List.append_nil], Lib.hid hb1⟩
  case round =>
    obtain ⟨K, rfl, hK, rfl, HB⟩ := hrel
    by_cases hlt : K < N
    · have hltI : (K : Int) < (N : Int) := by omega
      have hk0 : 0 ≤ (K : Int) := by omega
      have hw1 : IntKind.i64.wrap ((K : Int) + 1) = (K : Int) + 1 := IntWalk.i64_in _ (by omega)
      obtain ⟨x, hx⟩ : ∃ x, l[K]? = some x := ⟨_, List.getElem?_eq_getElem (by rw [HN.out]; exact hlt)⟩
      obtain ⟨b, off, ea, cs, -, rfl, hcell⟩ := HC.out K x hx
      subst ea
      have hxw := HW.out.1 x (List.mem_of_getElem? hx)
      have hl1 := flat_len layVd 20 (l.take K) fun y hy => layVd_len y (HW.out.1 y (List.mem_of_mem_take hy))
      rw [List.length_take] at hl1
      have hl2 := layVd_len x hxw
      have HX := Lib.hid (show X0 ++ (l.take (K + 1)).flatMap layVd = X0 ++ (l.take K).flatMap layVd ++ layVd x by rw [flat_take layVd hx, List.append_assoc])
      have e1 := add_str (X0 ++ (l.take K).flatMap layVd) (layVd x) (by rw [List.length_append]; omega)
      obtain ⟨n0, n1⟩ := x
      have k0 : wr.cell? ⟨b, off + K * 2, none⟩ = some (.int .i64 n0) := kept_cell HB.out (hcell 0 _ rfl)
      have k1 : wr.cell? ⟨b, off + K * 2 + 1, none⟩ = some (.int .i64 n1) := kept_cell HB.out (hcell 1 _ rfl)
      have C1 := Lib.hid (fun (W : World) => numbers_any L [n0, n1] _ _ (sln_built W [n0, n1] #[.int .i64 n0, .int .i64 n1] 3 2 2 rfl rfl) ⟨by intro x hx; simp at hx; rcases hx with rfl | rfl; exact hxw.1; exact hxw.2, by simp⟩)
      rw [show layVd ⟨n0, n1⟩ = numsL [n0, n1] from rfl] at HX e1
      generalize X0 ++ (l.take K).flatMap layVd = T0 at *
      generalize numsL [n0, n1] = X1 at *
      clear hxw hx hl1 hl2 hcell
      have hS0 : (wr.drew.cell? ⟨b, off + K * 2, none⟩ = some (Value.int .i64 n0) ∧ wr.drew.cell? ⟨b, off + K * 2 + 1, none⟩ = some (Value.int .i64 n1) ∧ Below w.heap.size w wr.drew) := ⟨k0, k1, HB.out.drew⟩
      have hSA : ((wr.drew.alloc (.cells #[.int .i64 n0, .int .i64 n1] 3)).cell? ⟨b, off + K * 2, none⟩ = some (Value.int .i64 n0) ∧ (wr.drew.alloc (.cells #[.int .i64 n0, .int .i64 n1] 3)).cell? ⟨b, off + K * 2 + 1, none⟩ = some (Value.int .i64 n1) ∧ Below w.heap.size w (wr.drew.alloc (.cells #[.int .i64 n0, .int .i64 n1] 3))) := ⟨cell_alloc k0, cell_alloc k1, HB.out.drew.trans ((below_alloc _ _).mono HB.out.size)⟩
      have G1 := Lib.hid (fun (hS : ((wr.drew.alloc (.cells #[.int .i64 n0, .int .i64 n1] 3)).cell? ⟨b, off + K * 2, none⟩ = some (Value.int .i64 n0) ∧ (wr.drew.alloc (.cells #[.int .i64 n0, .int .i64 n1] 3)).cell? ⟨b, off + K * 2 + 1, none⟩ = some (Value.int .i64 n1) ∧ Below w.heap.size w (wr.drew.alloc (.cells #[.int .i64 n0, .int .i64 n1] 3)))) => (C1.out wr.drew).mono (fun e (w' : World) ⟨h1, h2⟩ => (⟨h1, kept_cell h2 hS.1, kept_cell h2 hS.2.1, hS.2.2.trans (h2.mono hS.2.2.size)⟩ : e = Ending.returned (Value.string (str X1)) ∧ (w'.cell? ⟨b, off + K * 2, none⟩ = some (Value.int .i64 n0) ∧ w'.cell? ⟨b, off + K * 2 + 1, none⟩ = some (Value.int .i64 n1) ∧ Below w.heap.size w w'))))
      clear k0 k1 C1
      go_upto_region 5 with fail
      go_region_held_law (fun W => (W.cell? ⟨b, off + K * 2, none⟩ = some (Value.int .i64 n0) ∧ W.cell? ⟨b, off + K * 2 + 1, none⟩ = some (Value.int .i64 n1) ∧ Below w.heap.size w W)) (first | exact hS0 | exact hSA | assumption) (first | (go_at_call 43; refine (G1.out hSA).mono ?_; rintro _ w2 ⟨rfl, hS2⟩))
      go_wp2_with fail
      go_roundw
      case rel => exact ⟨K + 1, by go_num, by omega, by rw [HX.out], Lib.hid hS2.2.2⟩
      case measure => simp [intOf]; omega
    · have hltI : ¬ (K : Int) < (N : Int) := by omega
      have hd : X0 ++ (l.take K).flatMap layVd = R := by rw [HD.out, List.take_of_length_le (by rw [HN.out]; omega)]
      rw [hd]
      go_wp2_with fail
      go_ret
      exact ⟨rfl, HB.out⟩

set_option maxHeartbeats 4000000 in
theorem layItems_any (L : Low) (l : List It) (v : Value) (w : World) (h : ItsIs w v l) (hw : ItsWf l) (hl : l.length ≤ 1000) :
    Calls Tryz.prog 12 #[v] w fun e w' => e = .returned (.string (str (layItems l))) ∧ Below w.heap.size w w' := by
  obtain ⟨a, cap, rfl, hc⟩ := h.open
  obtain ⟨N, hN⟩ : ∃ N, l.length = N := ⟨_, rfl⟩
  have HC := Lib.hid hc
  have HN := Lib.hid hN
  have HW := Lib.hid hw
  have hn : N ≤ 1000 := by rw [← hN]; exact hl
  have H0 := Lib.hid (fun W => L.number (N : Int) W ⟨by omega, by omega⟩)
  have hz := num_len (N : Int) ⟨by omega, by omega⟩
  have HD := Lib.hid (show layItems l = num (N : Int) ++ l.flatMap layIt by rw [← hN]; rfl)
  rw [hN]
  generalize layItems l = R at HD ⊢
  generalize num (N : Int) = X0 at H0 hz HD
  clear hc h hN hw hl
  go_enter Tryz.func12, Tryz.ntmps12
  go_wp2_with fail
  refine (H0.out _).mono ?_
  rintro _ w1 ⟨rfl, hb1⟩
  go_wp2_with fail
  go_loopw [3, 4] (fun o i wr => ∃ K : Nat, i = .int .i64 (K : Int) ∧ K ≤ N ∧ o = .string (str (X0 ++ (l.take K).flatMap layIt)) ∧ Hid (Below w.heap.size w wr)) (fun _ i _ => N - (intOf i).toNat)
  case atStart => exact ⟨0, rfl, Nat.zero_le _, by rw [List.take_zero, List.flatMap_nil, List.append_nil], Lib.hid hb1⟩
  case round =>
    obtain ⟨K, rfl, hK, rfl, HB⟩ := hrel
    by_cases hlt : K < N
    · have hltI : (K : Int) < (N : Int) := by omega
      have hk0 : 0 ≤ (K : Int) := by omega
      have hw1 : IntKind.i64.wrap ((K : Int) + 1) = (K : Int) + 1 := IntWalk.i64_in _ (by omega)
      obtain ⟨x, hx⟩ : ∃ x, l[K]? = some x := ⟨_, List.getElem?_eq_getElem (by rw [HN.out]; exact hlt)⟩
      obtain ⟨b, off, ea, cs, -, ⟨u, rfl, hu⟩, hcell⟩ := HC.out K x hx
      subst ea
      have hxw := HW.out.1 x (List.mem_of_getElem? hx)
      have hl1 := flat_len layIt 400000000000000 (l.take K) fun y hy => layIt_len y (HW.out.1 y (List.mem_of_mem_take hy))
      rw [List.length_take] at hl1
      have hl2 := layIt_len x hxw
      obtain ⟨s, n0, n1, ar⟩ := x
      obtain ⟨hw2, hw0, hw3, hw4⟩ := hxw
      dsimp only at hw2 hw0 hw3 hw4 hu
      have k0 : wr.cell? ⟨b, off + K * 4, none⟩ = some (.string (str s)) := kept_cell HB.out (hcell 0 _ rfl)
      have k1 : wr.cell? ⟨b, off + K * 4 + 1, none⟩ = some (.int .i64 n0) := kept_cell HB.out (hcell 1 _ rfl)
      have k2 : wr.cell? ⟨b, off + K * 4 + 2, none⟩ = some (.int .i64 n1) := kept_cell HB.out (hcell 2 _ rfl)
      have k3 : wr.cell? ⟨b, off + K * 4 + 3, none⟩ = some u := kept_cell HB.out (hcell 3 _ rfl)
      have hl3 := textL_len s hw2
      have hl4 := numsL_len [n0, n1] (by intro y hy; simp at hy; rcases hy with rfl | rfl <;> assumption)
      have hl5 := listL_len ar hw4
      have hl6 := hw4.2
      simp only [List.length_cons, List.length_nil] at hl4
      have hw2' : s.length ≤ 140737488355328 := hw2
      have HX := Lib.hid (show X0 ++ (l.take (K + 1)).flatMap layIt = X0 ++ (l.take K).flatMap layIt ++ textL s ++ numsL [n0, n1] ++ listL ar by rw [flat_take layIt hx]; simp only [layIt, List.append_assoc])
      have e1 := add_str (X0 ++ (l.take K).flatMap layIt) (textL s) (by rw [List.length_append]; omega)
      have e2 := add_str (X0 ++ (l.take K).flatMap layIt ++ textL s) (numsL [n0, n1]) (by rw [List.length_append, List.length_append]; omega)
      have e3 := add_str (X0 ++ (l.take K).flatMap layIt ++ textL s ++ numsL [n0, n1]) (listL ar) (by rw [List.length_append, List.length_append, List.length_append]; omega)
      have C1 := Lib.hid (fun W => text_any L s W hw2)
      have C2 := Lib.hid (fun (W : World) v (hv : SlN W v [n0, n1]) => numbers_any L [n0, n1] v W hv ⟨by intro x hx; simp at hx; rcases hx with rfl | rfl <;> assumption, by simp⟩)
      have C3 := Lib.hid (fun W (hb : Below w.heap.size w W) => list_any L ar u W (hu.below hb) hw4)
      generalize X0 ++ (l.take K).flatMap layIt = T0 at *
      generalize textL s = X1 at *
      generalize numsL [n0, n1] = X2 at *
      generalize listL ar = X3 at *
      generalize hT1 : T0 ++ X1 = T1 at *
      generalize hT2 : T1 ++ X2 = T2 at *
      clear hx hl1 hl2 hl3 hl4 hl5 hl6 hcell hT1 hT2 hw0 hw2 hw3 hw4 hw2' hu
      have hS0 : (wr.drew.cell? ⟨b, off + K * 4, none⟩ = some (Value.string (str s)) ∧ wr.drew.cell? ⟨b, off + K * 4 + 1, none⟩ = some (Value.int .i64 n0) ∧ wr.drew.cell? ⟨b, off + K * 4 + 2, none⟩ = some (Value.int .i64 n1) ∧ wr.drew.cell? ⟨b, off + K * 4 + 3, none⟩ = some u ∧ Below w.heap.size w wr.drew) := ⟨k0, k1, k2, k3, HB.out.drew⟩
      have HKA := Lib.hid (fun (W : World) (hS : (W.cell? ⟨b, off + K * 4, none⟩ = some (Value.string (str s)) ∧ W.cell? ⟨b, off + K * 4 + 1, none⟩ = some (Value.int .i64 n0) ∧ W.cell? ⟨b, off + K * 4 + 2, none⟩ = some (Value.int .i64 n1) ∧ W.cell? ⟨b, off + K * 4 + 3, none⟩ = some u ∧ Below w.heap.size w W)) => (⟨cell_alloc hS.1, cell_alloc hS.2.1, cell_alloc hS.2.2.1, cell_alloc hS.2.2.2.1, hS.2.2.2.2.trans ((below_alloc _ _).mono hS.2.2.2.2.size)⟩ : ((W.alloc (.cells #[.int .i64 n0, .int .i64 n1] 3)).cell? ⟨b, off + K * 4, none⟩ = some (Value.string (str s)) ∧ (W.alloc (.cells #[.int .i64 n0, .int .i64 n1] 3)).cell? ⟨b, off + K * 4 + 1, none⟩ = some (Value.int .i64 n0) ∧ (W.alloc (.cells #[.int .i64 n0, .int .i64 n1] 3)).cell? ⟨b, off + K * 4 + 2, none⟩ = some (Value.int .i64 n1) ∧ (W.alloc (.cells #[.int .i64 n0, .int .i64 n1] 3)).cell? ⟨b, off + K * 4 + 3, none⟩ = some u ∧ Below w.heap.size w (W.alloc (.cells #[.int .i64 n0, .int .i64 n1] 3)))))
      have hvA : SlN (wr.alloc (.cells #[.int .i64 n0, .int .i64 n1] 3)).drew (.slice (some ⟨wr.heap.size, 0, none⟩) 2 2) [n0, n1] := sln_built wr [n0, n1] #[.int .i64 n0, .int .i64 n1] 3 2 2 rfl rfl
      have GA := Lib.hid (fun (W : World) (hS : (W.cell? ⟨b, off + K * 4, none⟩ = some (Value.string (str s)) ∧ W.cell? ⟨b, off + K * 4 + 1, none⟩ = some (Value.int .i64 n0) ∧ W.cell? ⟨b, off + K * 4 + 2, none⟩ = some (Value.int .i64 n1) ∧ W.cell? ⟨b, off + K * 4 + 3, none⟩ = some u ∧ Below w.heap.size w W)) (hv : SlN W (.slice (some ⟨wr.heap.size, 0, none⟩) 2 2) [n0, n1]) => (C1.out W).mono (fun e (w' : World) ⟨h1, h2⟩ => (⟨h1, ⟨kept_cell h2 hS.1, kept_cell h2 hS.2.1, kept_cell h2 hS.2.2.1, kept_cell h2 hS.2.2.2.1, hS.2.2.2.2.trans (h2.mono hS.2.2.2.2.size)⟩, hv.below h2⟩ : e = Ending.returned (Value.string (str X1)) ∧ (w'.cell? ⟨b, off + K * 4, none⟩ = some (Value.string (str s)) ∧ w'.cell? ⟨b, off + K * 4 + 1, none⟩ = some (Value.int .i64 n0) ∧ w'.cell? ⟨b, off + K * 4 + 2, none⟩ = some (Value.int .i64 n1) ∧ w'.cell? ⟨b, off + K * 4 + 3, none⟩ = some u ∧ Below w.heap.size w w') ∧ SlN w' (.slice (some ⟨wr.heap.size, 0, none⟩) 2 2) [n0, n1])))
      have GB := Lib.hid (fun (W : World) (hS : (W.cell? ⟨b, off + K * 4, none⟩ = some (Value.string (str s)) ∧ W.cell? ⟨b, off + K * 4 + 1, none⟩ = some (Value.int .i64 n0) ∧ W.cell? ⟨b, off + K * 4 + 2, none⟩ = some (Value.int .i64 n1) ∧ W.cell? ⟨b, off + K * 4 + 3, none⟩ = some u ∧ Below w.heap.size w W)) => (C1.out W).mono (fun e (w' : World) ⟨h1, h2⟩ => (⟨h1, kept_cell h2 hS.1, kept_cell h2 hS.2.1, kept_cell h2 hS.2.2.1, kept_cell h2 hS.2.2.2.1, hS.2.2.2.2.trans (h2.mono hS.2.2.2.2.size)⟩ : e = Ending.returned (Value.string (str X1)) ∧ (w'.cell? ⟨b, off + K * 4, none⟩ = some (Value.string (str s)) ∧ w'.cell? ⟨b, off + K * 4 + 1, none⟩ = some (Value.int .i64 n0) ∧ w'.cell? ⟨b, off + K * 4 + 2, none⟩ = some (Value.int .i64 n1) ∧ w'.cell? ⟨b, off + K * 4 + 3, none⟩ = some u ∧ Below w.heap.size w w'))))
      have NA := Lib.hid (fun (W : World) (hS : (W.cell? ⟨b, off + K * 4, none⟩ = some (Value.string (str s)) ∧ W.cell? ⟨b, off + K * 4 + 1, none⟩ = some (Value.int .i64 n0) ∧ W.cell? ⟨b, off + K * 4 + 2, none⟩ = some (Value.int .i64 n1) ∧ W.cell? ⟨b, off + K * 4 + 3, none⟩ = some u ∧ Below w.heap.size w W)) (v : Value) (hv : SlN W v [n0, n1]) => (C2.out W v hv).mono (fun e (w' : World) ⟨h1, h2⟩ => (⟨h1, kept_cell h2 hS.1, kept_cell h2 hS.2.1, kept_cell h2 hS.2.2.1, kept_cell h2 hS.2.2.2.1, hS.2.2.2.2.trans (h2.mono hS.2.2.2.2.size)⟩ : e = Ending.returned (Value.string (str X2)) ∧ (w'.cell? ⟨b, off + K * 4, none⟩ = some (Value.string (str s)) ∧ w'.cell? ⟨b, off + K * 4 + 1, none⟩ = some (Value.int .i64 n0) ∧ w'.cell? ⟨b, off + K * 4 + 2, none⟩ = some (Value.int .i64 n1) ∧ w'.cell? ⟨b, off + K * 4 + 3, none⟩ = some u ∧ Below w.heap.size w w'))))
      have G3 := Lib.hid (fun (W : World) (hS : (W.cell? ⟨b, off + K * 4, none⟩ = some (Value.string (str s)) ∧ W.cell? ⟨b, off + K * 4 + 1, none⟩ = some (Value.int .i64 n0) ∧ W.cell? ⟨b, off + K * 4 + 2, none⟩ = some (Value.int .i64 n1) ∧ W.cell? ⟨b, off + K * 4 + 3, none⟩ = some u ∧ Below w.heap.size w W)) => (C3.out W hS.2.2.2.2).mono (fun e (w' : World) ⟨h1, h2⟩ => (⟨h1, kept_cell h2 hS.1, kept_cell h2 hS.2.1, kept_cell h2 hS.2.2.1, kept_cell h2 hS.2.2.2.1, hS.2.2.2.2.trans (h2.mono hS.2.2.2.2.size)⟩ : e = Ending.returned (Value.string (str X3)) ∧ (w'.cell? ⟨b, off + K * 4, none⟩ = some (Value.string (str s)) ∧ w'.cell? ⟨b, off + K * 4 + 1, none⟩ = some (Value.int .i64 n0) ∧ w'.cell? ⟨b, off + K * 4 + 2, none⟩ = some (Value.int .i64 n1) ∧ w'.cell? ⟨b, off + K * 4 + 3, none⟩ = some u ∧ Below w.heap.size w w'))))
      clear k0 k1 k2 k3 C1 C2 C3
      go_upto_region 5 with fail
      go_region_held_law (fun W => (W.cell? ⟨b, off + K * 4, none⟩ = some (Value.string (str s)) ∧ W.cell? ⟨b, off + K * 4 + 1, none⟩ = some (Value.int .i64 n0) ∧ W.cell? ⟨b, off + K * 4 + 2, none⟩ = some (Value.int .i64 n1) ∧ W.cell? ⟨b, off + K * 4 + 3, none⟩ = some u ∧ Below w.heap.size w W)) (first | exact hS0 | assumption | exact HKA.out _ hS0 | exact HKA.out _ hS1 | exact HKA.out _ hS2) (first | (go_at_call 42; first | (with_reducible refine (GA.out _ (by assumption) hvA).mono ?_; rintro _ w1 ⟨rfl, hS1, hv1⟩) | (with_reducible refine (GB.out _ (by assumption)).mono ?_; rintro _ w1 ⟨rfl, hS1⟩)) | (go_at_call 43; first | (with_reducible refine (NA.out _ (by assumption) _ hv1).mono ?_; rintro _ w2 ⟨rfl, hS2⟩) | (with_reducible refine (NA.out _ (by assumption) _ (sln_built w1 [n0, n1] #[.int .i64 n0, .int .i64 n1] 3 2 2 rfl rfl)).mono ?_; rintro _ w2 ⟨rfl, hS2⟩) | (with_reducible refine (NA.out _ (by assumption) _ (sln_drew (sln_built w1 [n0, n1] #[.int .i64 n0, .int .i64 n1] 3 2 2 rfl rfl))).mono ?_; rintro _ w2 ⟨rfl, hS2⟩)) | (go_at_call 44; ((with_reducible refine (G3.out _ ?_).mono ?_); (first | assumption)); rintro _ w3 ⟨rfl, hS3⟩))
      all_goals
        go_wp2_with fail
        go_roundw
        case rel => exact ⟨K + 1, by go_num, by omega, by rw [HX.out], Lib.hid hS3.2.2.2.2⟩
        case measure => simp [intOf]; omega
    · have hltI : ¬ (K : Int) < (N : Int) := by omega
      have hd : X0 ++ (l.take K).flatMap layIt = R := by rw [HD.out, List.take_of_length_le (by rw [HN.out]; omega)]
      rw [hd]
      go_wp2_with fail
      go_ret
      exact ⟨rfl, HB.out⟩
end Go.Proofs.YtebglkpejdoggaaGreat.C10
