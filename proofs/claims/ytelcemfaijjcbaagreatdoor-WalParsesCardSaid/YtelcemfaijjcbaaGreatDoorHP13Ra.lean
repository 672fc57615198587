/-
  Layer 13, the document's side: Parse.
-/
import Derived.Test.YtelcemfaijjcbaaGreatDoorHP13Pm
namespace Go.Proofs.YtelcemfaijjcbaaGreatDoor.C13
open Go Go.RowKit Go.Proofs Go.Proofs.YtelcemfaijjcbaaGreatDoor.B Go.Proofs.YtelcemfaijjcbaaGreatDoor.K Go.Proofs.YtelcemfaijjcbaaGreatDoor.C12
set_option linter.unusedVariables false
set_option maxRecDepth 100000

set_option maxHeartbeats 4000000 in
theorem parse_any (s : List UInt8) (first : Int) (w : World) (hs : s.length ≤ 8796093022000) (hf : -9223372036854775808 ≤ first ∧ first ≤ 4611686018427387904) :
    Calls Tryz.prog 10 #[.string (str s), .int .i64 first] w fun e w' => ∃ v, e = .returned (.tuple #[v, .int .i64 ((parseL s first).2 : Int)]) ∧ w'.ownsRow w.heap.size 9 1 v (parseL s first).1.length ((parseL s first).1.map sv) ∧ Below w.heap.size w w' := by
  obtain ⟨i0, hi, hz0, hz1, hz2⟩ := str_info
  by_cases h0 : first < 0
  · have hp : parseL s first = ([], 0) := by unfold parseL; rw [if_pos h0]
    rw [hp]
    have hn : ¬ 0 ≤ first := by omega
    clear hp h0
    go_enter Tryz.func10, Tryz.ntmps10
    go_wp2_with fail
    go_loopw [1, 6, 7] (fun f o a wr => f = .int .i64 first ∧ o = .slice none 0 0 ∧ a = .int .i64 0 ∧ wr = w) (fun _ _ _ _ => 0)
    case atStart => exact ⟨rfl, rfl, rfl, rfl⟩
    case round =>
      obtain ⟨rfl, rfl, rfl, rfl⟩ := hrel
      go_wp2_with fail
      go_ret2
      exact ⟨_, rfl, World.ownsRow_nil _ _ _ _, Below.refl _ _⟩
  have hp : parseL s first = parseGo s (s.length + 1) first 0 := by unfold parseL; rw [if_neg h0]
  rw [hp]
  obtain ⟨N, hN⟩ : ∃ N, s.length = N := ⟨_, rfl⟩
  have hsz : (str s).size = N := by rw [str_size, hN]
  have HS := Lib.hid (show (str s).size ≤ 140737488355328 from by rw [hsz]; omega)
  have HP := Lib.hid (show parseGo s (s.length + 1) first 0 = parseGo s (N + 1) first 0 from by rw [hN])
  rw [HP.out]
  obtain ⟨PP, hPP⟩ : ∃ PP, parseGo s (N + 1) first 0 = PP := ⟨_, rfl⟩
  rw [hPP]
  have HPP := Lib.hid hPP
  have HN := Lib.hid hN
  have hNl : N ≤ 8796093022000 := by omega
  have h0' : 0 ≤ first := by omega
  have hfl : first ≤ 4611686018427387904 := hf.2
  clear hp hPP hN hs h0 hf HP
  go_enter Tryz.func10, Tryz.ntmps10
  go_wp2_with fail
  go_loopw [1, 6, 7] (fun f o a wr => ∃ (K A n : Nat) (done : List (List UInt8)), f = .int .i64 (first + (K : Int)) ∧ a = .int .i64 (A : Int) ∧ K ≤ A ∧ A ≤ N ∧ Hid (done.length = K) ∧ Hid (PP = (done ++ (parseGo s n (first + (K : Int)) A).1, (parseGo s n (first + (K : Int)) A).2)) ∧ N < A + n ∧ wr.ownsRow w.heap.size 9 1 o K (done.map sv) ∧ Hid (Below w.heap.size w wr)) (fun _ _ a _ => N - (intOf a).toNat)
  case atStart => exact ⟨0, 0, N + 1, [], by simp, rfl, Nat.le_refl _, Nat.zero_le _, Lib.hid rfl, Lib.hid (by rw [← HPP.out]; simp), by omega, World.ownsRow_nil _ _ _ _, Lib.hid (Below.refl _ _)⟩
  case round =>
    obtain ⟨K, A, n, done, rfl, rfl, hKA, hA, HK, HG, hn, hown, HB⟩ := hrel
    obtain ⟨F, hF⟩ : ∃ F, first + (K : Int) = F := ⟨_, rfl⟩
    rw [hF] at HG ⊢
    have hF0 : 0 ≤ F := by omega
    have hFl : F ≤ 4611694814520409904 := by omega
    have hA0 : (0 : Int) ≤ (A : Int) := by omega
    have HF := Lib.hid hF
    have HO := Lib.hid hown
    obtain ⟨av, cv, rfl⟩ := shape_own hown
    have HE := Lib.hid (show recAt s F A = none → PP = (done, A) from fun h => by rw [HG.out, parse_none h, List.append_nil])
    have HFIN := Lib.hid (show PP = (done, A) → ∀ e, e = Ending.returned (.tuple #[.slice av K cv, .int .i64 (A : Int)]) → ∀ W, W.ownsRow w.heap.size 9 1 (.slice av K cv) K (done.map sv) → Below w.heap.size w W → ∃ v, e = .returned (.tuple #[v, .int .i64 (PP.2 : Int)]) ∧ W.ownsRow w.heap.size 9 1 v PP.1.length (PP.1.map sv) ∧ Below w.heap.size w W from fun h e he W ho hb => ⟨_, by rw [h]; exact he, by rw [h]; dsimp only; rw [HK.out]; exact ho, hb⟩)
    clear hown hF
    obtain ⟨⟨x, q, e⟩, hr⟩ : ∃ t, V.rdAt s A = t := ⟨_, rfl⟩
    have HRD := Lib.hid (fun W => V.refReadNumber_of (s := str s) (p := A) (x := x) (q := q) (e := e) (by rw [str_data]; exact hr) W HS.out)
    have HREC := Lib.hid (show recAt s F A = recAt s F A from rfl)
    by_cases he : e = 0
    rotate_left 1
    · have hb : (e != 0) = true := bne_iff_ne.2 he
      have HNO := Lib.hid (HE.out (by unfold recAt; rw [hr]; exact if_pos (Or.inl he)))
      clear hr he
      go_wp2_with (go_at_call 28; (with_reducible refine (HRD.out _).mono ?_); rintro _ wa ⟨rfl, rfl⟩)
      go_ret2
      exact HFIN.out HNO.out _ rfl _ HO.out HB.out
    subst he
    obtain ⟨-, hq1, hq2, -⟩ := V.rdAt_ok s A hr
    rw [HN.out] at hq2
    obtain ⟨Q, rfl⟩ : ∃ Q : Nat, q = (Q : Int) := ⟨q.toNat, by omega⟩
    have hxb := V.rdAt_bounds s A hr
    by_cases hx0 : x < 0
    · have HNO := Lib.hid (HE.out (by unfold recAt; rw [hr]; exact if_pos (Or.inr (Or.inl hx0))))
      clear hr
      go_wp2_with (go_at_call 28; (with_reducible refine (HRD.out _).mono ?_); rintro _ wa ⟨rfl, rfl⟩)
      go_ret2
      exact HFIN.out HNO.out _ rfl _ HO.out HB.out
    have hw0 : IntKind.i64.wrap ((N : Int) - (Q : Int)) = (N : Int) - (Q : Int) := IntWalk.i64_in _ (by omega)
    by_cases hxl : (N : Int) - (Q : Int) < x
    · have HNO := Lib.hid (HE.out (by unfold recAt; rw [hr, HN.out]; exact if_pos (Or.inr (Or.inr hxl))))
      clear hr
      go_wp2_with (go_at_call 28; (with_reducible refine (HRD.out _).mono ?_); rintro _ wa ⟨rfl, rfl⟩)
      go_ret2
      exact HFIN.out HNO.out _ rfl _ HO.out HB.out
    obtain ⟨X, rfl⟩ : ∃ X : Nat, x = (X : Int) := ⟨x.toNat, by omega⟩
    have hw1 : IntKind.i64.wrap ((Q : Int) + (X : Int)) = (Q : Int) + (X : Int) := IntWalk.i64_in _ (by omega)
    have hQX : Q + X ≤ N := by omega
    have hQXI : (Q : Int) + (X : Int) ≤ (N : Int) := by omega
    have hQI : (0 : Int) ≤ (Q : Int) := by omega
    have hQQ : (Q : Int) ≤ (Q : Int) + (X : Int) := by omega
    obtain ⟨t, ht⟩ : ∃ t, (s.drop Q).take X = t := ⟨_, rfl⟩
    have hext : (str s).extract Q (Q + X) = str t := by rw [str_extract, ← ht, Nat.add_sub_cancel_left]
    have htl : t.length ≤ N := by rw [← ht, List.length_take, List.length_drop, HN.out]; omega
    obtain ⟨⟨T, f⟩, ho⟩ : ∃ p, C.openOf t = p := ⟨_, rfl⟩
    have HOP := Lib.hid (fun W => by
      have := C.refOpen_any t W (by omega)
      rw [ho] at this
      exact this)
    dsimp only at HOP
    have hTl : T.length ≤ N := by
      have : T = (C.openOf t).1 := by rw [ho]
      rw [this]
      unfold C.openOf
      split
      · simp
      · split
        · rw [List.length_take]; omega
        · simp
    have HR1 := Lib.hid (show recAt s F A = (if f ≠ 0 then none else if (V.rdAt T 0).2.2 ≠ 0 ∨ (V.rdAt T 0).1 ≠ F ∨ 1024 < (T.length : Int) - (V.rdAt T 0).2.1 then none else some (T.drop (V.rdAt T 0).2.1.toNat, Q + X)) from by
      unfold recAt
      rw [hr, HN.out, if_neg (by simp; omega)]
      simp only [Int.toNat_natCast]
      rw [ht, ho])
    clear hr ht
    by_cases hf0 : f = 0
    rotate_left 1
    · have hb : (f != 0) = true := bne_iff_ne.2 hf0
      have HNO := Lib.hid (HE.out (by rw [HR1.out, if_pos hf0]))
      clear ho hf0
      go_wp2_with (first
        | (go_at_call 28; (with_reducible refine (HRD.out _).mono ?_); rintro _ wa ⟨rfl, rfl⟩)
        | (go_at_call 29; (with_reducible refine (HOP.out _).mono ?_); rintro _ wb ⟨rfl, hb1⟩; have HB2 := Lib.hid (HB.out.trans (hb1.mono HB.out.size)); have HO2 := Lib.hid (row_new HO.out hb1); clear hb1))
      go_ret2
      exact HFIN.out HNO.out _ rfl _ HO2.out HB2.out
    subst hf0
    obtain ⟨⟨y, i, g⟩, hy⟩ : ∃ p, V.rdAt T 0 = p := ⟨_, rfl⟩
    have hTs : (str T).size = T.length := str_size T
    have HRT := Lib.hid (fun W => V.refReadNumber_of (s := str T) (p := 0) (x := y) (q := i) (e := g) (by rw [str_data]; exact hy) W (by rw [str_size]; omega))
    rw [hy] at HR1
    obtain ⟨M, hM⟩ : ∃ M, T.length = M := ⟨_, rfl⟩
    rw [hM] at hTs hTl HR1
    clear ho
    by_cases hg : g = 0
    rotate_left 1
    · have hb : (g != 0) = true := bne_iff_ne.2 hg
      have HNO := Lib.hid (HE.out (by rw [HR1.out, if_neg (by simp)]; exact if_pos (Or.inl hg)))
      clear hy hg hM
      go_wp2_with (first
        | (go_at_call 28; (with_reducible refine (HRD.out _).mono ?_); rintro _ wa ⟨rfl, rfl⟩)
        | (go_at_call 29; (with_reducible refine (HOP.out _).mono ?_); rintro _ wb ⟨rfl, hb1⟩; have HB2 := Lib.hid (HB.out.trans (hb1.mono HB.out.size)); have HO2 := Lib.hid (row_new HO.out hb1); clear hb1)
        | (go_at_call 28; (with_reducible refine (HRT.out _).mono ?_); rintro _ wc ⟨rfl, rfl⟩))
      go_ret2
      exact HFIN.out HNO.out _ rfl _ HO2.out HB2.out
    subst hg
    obtain ⟨-, hi1, hi2, -⟩ := V.rdAt_ok T 0 hy
    rw [hM] at hi2
    obtain ⟨J, rfl⟩ : ∃ J : Nat, i = (J : Int) := ⟨i.toNat, by omega⟩
    clear hy
    by_cases hyF : y = F
    rotate_left 1
    · have hb : (y != F) = true := bne_iff_ne.2 hyF
      have HNO := Lib.hid (HE.out (by rw [HR1.out, if_neg (by simp)]; exact if_pos (Or.inr (Or.inl hyF))))
      clear hyF hM
      go_wp2_with (first
        | (go_at_call 28; (with_reducible refine (HRD.out _).mono ?_); rintro _ wa ⟨rfl, rfl⟩)
        | (go_at_call 29; (with_reducible refine (HOP.out _).mono ?_); rintro _ wb ⟨rfl, hb1⟩; have HB2 := Lib.hid (HB.out.trans (hb1.mono HB.out.size)); have HO2 := Lib.hid (row_new HO.out hb1); clear hb1)
        | (go_at_call 28; (with_reducible refine (HRT.out _).mono ?_); rintro _ wc ⟨rfl, rfl⟩))
      go_ret2
      exact HFIN.out HNO.out _ rfl _ HO2.out HB2.out
    subst hyF
    have hw2 : IntKind.i64.wrap ((M : Int) - (J : Int)) = (M : Int) - (J : Int) := IntWalk.i64_in _ (by omega)
    have hyy : (y != y) = false := by simp
    by_cases hbig : 1024 < (M : Int) - (J : Int)
    · have HNO := Lib.hid (HE.out (by rw [HR1.out, if_neg (by simp)]; exact if_pos (Or.inr (Or.inr hbig))))
      clear hM
      go_wp2_with (first
        | (go_at_call 28; (with_reducible refine (HRD.out _).mono ?_); rintro _ wa ⟨rfl, rfl⟩)
        | (go_at_call 29; (with_reducible refine (HOP.out _).mono ?_); rintro _ wb ⟨rfl, hb1⟩; have HB2 := Lib.hid (HB.out.trans (hb1.mono HB.out.size)); have HO2 := Lib.hid (row_new HO.out hb1); clear hb1)
        | (go_at_call 28; (with_reducible refine (HRT.out _).mono ?_); rintro _ wc ⟨rfl, rfl⟩))
      go_ret2
      exact HFIN.out HNO.out _ rfl _ HO2.out HB2.out
    have HYES := Lib.hid (show recAt s y A = some (T.drop J, Q + X) from by rw [HR1.out, if_neg (by simp), if_neg (by simp; omega)]; simp)
    have hx2 : (str T).extract J M = str (T.drop J) := by rw [str_extract, List.take_of_length_le (by rw [List.length_drop, hM]; omega)]
    have hJM : (J : Int) ≤ (M : Int) := by omega
    have hJ0 : (0 : Int) ≤ (J : Int) := by omega
    obtain ⟨n, rfl⟩ : ∃ m, n = m + 1 := ⟨n - 1, by omega⟩
    have HNX := Lib.hid (show PP = ((done ++ [T.drop J]) ++ (parseGo s n (y + 1) (Q + X)).1, (parseGo s n (y + 1) (Q + X)).2) from by rw [HG.out, parse_some HYES.out]; simp)
    have hw3 : IntKind.i64.wrap (y + 1) = y + 1 := IntWalk.i64_in _ (by omega)
    have HC4 := Lib.hid (show (K + 1) * 16 ≤ 140737488355328 by omega)
    have HMX := Lib.hid (show (done ++ [T.drop J]).map sv = done.map sv ++ [.string (str (T.drop J))] from by simp [sv])
    have HM := Lib.hid hM
    clear hM
    go_wp2_with (first
      | (go_at_call 28; (with_reducible refine (HRD.out _).mono ?_); rintro _ wa ⟨rfl, rfl⟩)
      | (go_at_call 29; (with_reducible refine (HOP.out _).mono ?_); rintro _ wb ⟨rfl, hb1⟩; have HB2 := Lib.hid (HB.out.trans (hb1.mono HB.out.size)); have HO2 := Lib.hid (row_new HO.out hb1); clear hb1)
      | (go_at_call 28; (with_reducible refine (HRT.out _).mono ?_); rintro _ wc ⟨rfl, rfl⟩)
      | (at_builtin; have HO3 := Lib.hid (HO2.out.alloc (.cells #[.string (str (T.drop J))] 9)); have HC5 := Lib.hid (show w.heap.size ≤ (wb.alloc (.cells #[.string (str (T.drop J))] 9)).heap.size from Nat.le_trans HB2.out.size (below_alloc _ _).size); refine wpList_append_own _ rfl _ _ 23 rfl w.heap.size 9 i0 (.string ⟨#[]⟩) 1 16 Tryz.underlying23 hi hz0 hz1 hz2 rfl (by decide) _ _ _ rfl HO3.out ⟨wb.heap.size, 0, none⟩ 1 1 [.string (str (T.drop J))] rfl rfl (new_one _ _ _) (by intro u hu; simp at hu; subst hu; rfl) (by unfold maxLen; omega) HC4.out HC5.out ?_; intro v' w5 hown' hgrow hnn; have HB5 := Lib.hid ((HB2.out.alloc HB2.out.size _).grown hgrow HC5.out (owns_blk HO3.out)); have HOW := Lib.hid hown'; clear hnn hown' hgrow))
    go_roundw
    case rel => exact ⟨K + 1, Q + X, n, done ++ [T.drop J], by have := HF.out; go_num, by go_num, by omega, hQX, Lib.hid (by rw [List.length_append, HK.out]; rfl), Lib.hid (by rw [HNX.out]; have := HF.out; rw [show first + ((K + 1 : Nat) : Int) = y + 1 from by omega]), by omega, by rw [HMX.out]; exact HOW.out, HB5⟩
    case measure => simp [intOf]; omega
end Go.Proofs.YtelcemfaijjcbaaGreatDoor.C13
