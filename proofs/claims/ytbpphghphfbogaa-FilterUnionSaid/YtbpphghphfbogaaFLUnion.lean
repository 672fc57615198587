/-
  FilterUnion: what is put together is the normal form of all, or too much; and has just the streams that one of them has. No condition.
-/
import Derived.Test.YtbpphghphfbogaaRows
import Derived.Test.YtbpphghphfbogaaP9Prog
import Derived.Test.YtbpphghphfbogaaKLaw
import Derived.SizedLaws
import Derived.Deep.QuietTactic
import Derived.BigQuiet
import Derived.Deep.LoopGhost
import Derived.Deep.DeepCutAuto
import Derived.Deep.RegionHeld3
namespace Go.Proofs.Ytbpphghphfbogaa.filterUnion
open Go.ChangeShapes Go.WideShapes Go.ChangeAt Go.RowKit Go.Shelf Go.Proofs
open Go.ChangeMaps (open_string shut_string)
open Go.Proofs.Ytbpphghphfbogaa.P8 Go.Proofs.Ytbpphghphfbogaa.K Go.Proofs.Ytbpphghphfbogaa.B
set_option linter.unusedVariables false
set_option maxRecDepth 100000

theorem own : ownKnob Try.prog.godebug = none := by kernel_rfl
theorem laidOut : laidOutB Try.prog = true := by kernel_rfl

theorem union_bad {ls : List (List (List UInt8))} {K : Nat} {x : List (List UInt8)} (hk : ∀ j, j < K → ∀ y, ls[j]? = some y → right9 y = true) (hx : ls[K]? = some x) (h : right9 x = false) : unionF ls = ([], (check9 x).2) := by
  obtain ⟨hlt, rfl⟩ := List.getElem?_eq_some_iff.1 hx
  have hf : (ls.take K ++ ls.drop K).find? (fun l => !right9 l) = some ls[K] := by
    rw [List.find?_append, List.find?_eq_none.2 (fun y hy => ?_), Option.none_or, List.drop_eq_getElem_cons hlt, List.find?_cons_of_pos (by simp [h])]
    · obtain ⟨j, hj, rfl⟩ := List.getElem_of_mem hy
      rw [List.length_take] at hj
      have := hk j (by omega) (ls.take K)[j] (by rw [List.getElem_take, List.getElem?_eq_getElem])
      rw [this]; decide
  rw [List.take_append_drop] at hf
  unfold unionF
  rw [hf]
theorem union_good {ls : List (List (List UInt8))} (h : ∀ l ∈ ls, right9 l = true) : unionF ls = if 8 < (leastL ls.flatten).length then ([], 4) else (leastL ls.flatten, 0) := by
  unfold unionF
  rw [List.find?_eq_none.2 (fun y hy => by simp [h y hy])]
theorem tss_built (W : World) (e : TypeId) (v0 v1 v2 : Value) (x0 x1 x2 : List (List UInt8)) (h0 : Ts W v0 x0) (h1 : Ts W v1 x1) (h2 : Ts W v2 x2) : Tss (W.alloc (.cells #[v0, v1, v2] e)) (.slice (some ⟨W.heap.size, 0, none⟩) 3 3) [x0, x1, x2] := by
  refine ⟨[v0, v1, v2], Sl.row (xs := [v0, v1, v2]) (heap_alloc_at W _) rfl, rfl, fun j u l hu hl => ?_⟩
  match j, hu, hl with
  | 0, hu, hl => cases hu; cases hl; exact h0.below (below_new W _)
  | 1, hu, hl => cases hu; cases hl; exact h1.below (below_new W _)
  | 2, hu, hl => cases hu; cases hl; exact h2.below (below_new W _)

set_option maxHeartbeats 8000000 in
theorem walk (F : Filt) (A B C : List (List UInt8)) (s : List UInt8) (aA aB aC : Option Addr) (nA nB nC cA cB cC : Nat) (w : World) (htA : Ts w (.slice aA nA cA) A) (hBA : Bd A) (hcA : nA ≤ cA) (htB : Ts w (.slice aB nB cB) B) (hBB : Bd B) (hcB : nB ≤ cB) (htC : Ts w (.slice aC nC cC) C) (hBC : Bd C) (hcC : nC ≤ cC) (hzA : aA = none → cA = 0) (hzB : aB = none → cB = 0) (hzC : aC = none → cC = 0) (hs : s.length ≤ 140737488355328) :
    Calls Try.prog 6 #[.agg #[.slice aA nA cA, .slice aB nB cB, .slice aC nC cC, .string (str s)]] w fun e w' => e = .returned (.bool true) ∧ Below w.heap.size w w' := by
  have hbb : ∀ b : Bool, (b == b) = true := fun b => by cases b <;> rfl
  obtain ⟨i0, hi, hz0, hz1, hz2⟩ := info_parts Try.info9
  have hFA := fun W => few_pure aA nA cA W hcA
  have hFB := fun W => few_pure aB nB cB W hcB
  have hFC := fun W => few_pure aC nC cC W hcC
  have hfA := ts_few htA
  have hfB := ts_few htB
  have hfC := ts_few htC
  have hTA := hBA.take 40
  have hTB := hBB.take 40
  have hTC := hBC.take 40
  have hlA : (A.take 40).length ≤ 40 := by rw [List.length_take]; omega
  have hlB : (B.take 40).length ≤ 40 := by rw [List.length_take]; omega
  have hlC : (C.take 40).length ≤ 40 := by rw [List.length_take]; omega
  clear htA htB htC hBA hBB hBC hcA hcB hcC
  generalize A.take 40 = x0 at hfA hTA hlA
  generalize B.take 40 = x1 at hfB hTB hlB
  generalize C.take 40 = x2 at hfC hTC hlC
  generalize hmA : min 40 nA = mA at hFA hfA
  generalize hmB : min 40 nB = mB at hFB hfB
  generalize hmC : min 40 nC = mC at hFC hfC
  clear hmA hmB hmC
  have U := fun (W : World) (hb : Below w.heap.size w W) => F.union [x0, x1, x2] _ (W.alloc _) (tss_built W 22 _ _ _ x0 x1 x2 (hfA.below hb) (hfB.below hb) (hfC.below hb)) (by simp) (fun l hl => by
    simp only [List.mem_cons, List.not_mem_nil, or_false] at hl
    rcases hl with rfl | rfl | rfl
    · exact ⟨by omega, hTA⟩
    · exact ⟨by omega, hTB⟩
    · exact ⟨by omega, hTC⟩)
  have h0 := Below.refl w.heap.size w
  go_enter Try.func6, Try.ntmps6
  go_upto_region 1 with fail
  obtain ⟨wb, hwb⟩ : ∃ W, (w.alloc (.cells #[.slice aA nA cA, .slice aB nB cB, .slice aC nC cC, .string (str s)] 33)) = W := ⟨_, rfl⟩
  have hc0 : wb.cell? ⟨w.heap.size, 0, none⟩ = some (.slice aA nA cA) := by rw [← hwb]; unfold World.cell?; simp only [heap_alloc_at]; rfl
  have hc1 : wb.cell? ⟨w.heap.size, 1, none⟩ = some (.slice aB nB cB) := by rw [← hwb]; unfold World.cell?; simp only [heap_alloc_at]; rfl
  have hc2 : wb.cell? ⟨w.heap.size, 2, none⟩ = some (.slice aC nC cC) := by rw [← hwb]; unfold World.cell?; simp only [heap_alloc_at]; rfl
  have hc3 : wb.cell? ⟨w.heap.size, 3, none⟩ = some (.string (str s)) := by rw [← hwb]; unfold World.cell?; simp only [heap_alloc_at]; rfl
  have hwb1 : Below w.heap.size w wb := by rw [← hwb]; exact below_new w _
  rw [hwb]
  clear hwb
  have hS0 : (wb.drew.cell? ⟨w.heap.size, 0, none⟩ = some (Value.slice aA nA cA) ∧ wb.drew.cell? ⟨w.heap.size, 1, none⟩ = some (Value.slice aB nB cB) ∧ wb.drew.cell? ⟨w.heap.size, 2, none⟩ = some (Value.slice aC nC cC) ∧ wb.drew.cell? ⟨w.heap.size, 3, none⟩ = some (Value.string (str s)) ∧ Below w.heap.size w wb.drew) := ⟨hc0, hc1, hc2, hc3, hwb1.drew⟩
  clear hc0 hc1 hc2 hc3
  have GFA := Lib.hid (fun (W : World) (hS : (W.cell? ⟨w.heap.size, 0, none⟩ = some (Value.slice aA nA cA) ∧ W.cell? ⟨w.heap.size, 1, none⟩ = some (Value.slice aB nB cB) ∧ W.cell? ⟨w.heap.size, 2, none⟩ = some (Value.slice aC nC cC) ∧ W.cell? ⟨w.heap.size, 3, none⟩ = some (Value.string (str s)) ∧ Below w.heap.size w W)) => (hFA W).mono fun e (w' : World) ⟨h1, h2⟩ => (⟨h1, h2 ▸ hS⟩ : e = Ending.returned (Value.slice aA mA cA) ∧ (w'.cell? ⟨w.heap.size, 0, none⟩ = some (Value.slice aA nA cA) ∧ w'.cell? ⟨w.heap.size, 1, none⟩ = some (Value.slice aB nB cB) ∧ w'.cell? ⟨w.heap.size, 2, none⟩ = some (Value.slice aC nC cC) ∧ w'.cell? ⟨w.heap.size, 3, none⟩ = some (Value.string (str s)) ∧ Below w.heap.size w w')))
  have GFB := Lib.hid (fun (W : World) (hS : (W.cell? ⟨w.heap.size, 0, none⟩ = some (Value.slice aA nA cA) ∧ W.cell? ⟨w.heap.size, 1, none⟩ = some (Value.slice aB nB cB) ∧ W.cell? ⟨w.heap.size, 2, none⟩ = some (Value.slice aC nC cC) ∧ W.cell? ⟨w.heap.size, 3, none⟩ = some (Value.string (str s)) ∧ Below w.heap.size w W)) => (hFB W).mono fun e (w' : World) ⟨h1, h2⟩ => (⟨h1, h2 ▸ hS⟩ : e = Ending.returned (Value.slice aB mB cB) ∧ (w'.cell? ⟨w.heap.size, 0, none⟩ = some (Value.slice aA nA cA) ∧ w'.cell? ⟨w.heap.size, 1, none⟩ = some (Value.slice aB nB cB) ∧ w'.cell? ⟨w.heap.size, 2, none⟩ = some (Value.slice aC nC cC) ∧ w'.cell? ⟨w.heap.size, 3, none⟩ = some (Value.string (str s)) ∧ Below w.heap.size w w')))
  have GFC := Lib.hid (fun (W : World) (hS : (W.cell? ⟨w.heap.size, 0, none⟩ = some (Value.slice aA nA cA) ∧ W.cell? ⟨w.heap.size, 1, none⟩ = some (Value.slice aB nB cB) ∧ W.cell? ⟨w.heap.size, 2, none⟩ = some (Value.slice aC nC cC) ∧ W.cell? ⟨w.heap.size, 3, none⟩ = some (Value.string (str s)) ∧ Below w.heap.size w W)) => (hFC W).mono fun e (w' : World) ⟨h1, h2⟩ => (⟨h1, h2 ▸ hS⟩ : e = Ending.returned (Value.slice aC mC cC) ∧ (w'.cell? ⟨w.heap.size, 0, none⟩ = some (Value.slice aA nA cA) ∧ w'.cell? ⟨w.heap.size, 1, none⟩ = some (Value.slice aB nB cB) ∧ w'.cell? ⟨w.heap.size, 2, none⟩ = some (Value.slice aC nC cC) ∧ w'.cell? ⟨w.heap.size, 3, none⟩ = some (Value.string (str s)) ∧ Below w.heap.size w w')))
  go_region_held3 (fun W => (W.cell? ⟨w.heap.size, 0, none⟩ = some (Value.slice aA nA cA) ∧ W.cell? ⟨w.heap.size, 1, none⟩ = some (Value.slice aB nB cB) ∧ W.cell? ⟨w.heap.size, 2, none⟩ = some (Value.slice aC nC cC) ∧ W.cell? ⟨w.heap.size, 3, none⟩ = some (Value.string (str s)) ∧ Below w.heap.size w W)) (first | exact hS0 | assumption) (first | (go_at_call 16; ((with_reducible refine (GFA.out _ ?_).mono ?_); (first | exact hS0 | assumption)); rintro _ wA ⟨rfl, hSA⟩) | (go_at_call 16; ((with_reducible refine (GFB.out _ ?_).mono ?_); (first | exact hS0 | assumption)); rintro _ wB ⟨rfl, hSB⟩) | (go_at_call 16; ((with_reducible refine (GFC.out _ ?_).mono ?_); (first | exact hS0 | assumption)); rintro _ wC ⟨rfl, hSC⟩))
  go_wp2_with fail
  refine (U _ hSC.2.2.2.2).mono ?_
  rintro _ w2 ⟨u7, rfl, htu, hb2⟩
  have h2 := hSC.2.2.2.2.trans ((below_new wC _).trans (hb2.mono (below_new wC _).size) |>.mono hSC.2.2.2.2.size)
  clear hb2 U hSA hSB hSC GFA GFB GFC hFA hFB hFC hwb1 hS0 h0
  obtain ⟨a7, c7, rfl, -⟩ := id htu.open
  obtain ⟨⟨nu, eu⟩, hue⟩ : ∃ q, unionF [x0, x1, x2] = q := ⟨_, rfl⟩
  rw [hue] at htu
  rw [hue]
  dsimp only at htu
  dsimp only
  obtain ⟨n7, hn7⟩ : ∃ n, nu.length = n := ⟨_, rfl⟩
  rw [hn7]
  go_upto_region 4 with fail
  have hB3 : Below w.heap.size w (w2.alloc (.cells #[.slice aA mA cA, .slice aB mB cB, .slice aC mC cC] 22)) := h2.trans ((below_new w2 _).mono h2.size)
  have h23 := below_new w2 (.cells #[.slice aA mA cA, .slice aB mB cB, .slice aC mC cC] 22)
  have hd0 : (w2.alloc (.cells #[.slice aA mA cA, .slice aB mB cB, .slice aC mC cC] 22)).cell? ⟨w2.heap.size, 0, none⟩ = some (.slice aA mA cA) := by unfold World.cell?; simp only [heap_alloc_at]; rfl
  have hd1 : (w2.alloc (.cells #[.slice aA mA cA, .slice aB mB cB, .slice aC mC cC] 22)).cell? ⟨w2.heap.size, 1, none⟩ = some (.slice aB mB cB) := by unfold World.cell?; simp only [heap_alloc_at]; rfl
  have hd2 : (w2.alloc (.cells #[.slice aA mA cA, .slice aB mB cB, .slice aC mC cC] 22)).cell? ⟨w2.heap.size, 2, none⟩ = some (.slice aC mC cC) := by unfold World.cell?; simp only [heap_alloc_at]; rfl
  obtain ⟨B3, hB3e⟩ : ∃ b, w2.heap.size = b := ⟨_, rfl⟩
  rw [hB3e] at hd0 hd1 hd2
  obtain ⟨W3, hW3⟩ : ∃ W, (w2.alloc (.cells #[.slice aA mA cA, .slice aB mB cB, .slice aC mC cC] 22)) = W := ⟨_, rfl⟩
  have htu3 := htu.below h23
  rw [hW3] at hB3 hd0 hd1 hd2 htu3 ⊢
  rw [hB3e]
  clear hW3 hB3e h23 htu h2
  have HCL := Lib.hid (fun (K : Nat) (hK : K < 3) => (show ∃ au nu cu x, [x0, x1, x2][K]? = some x ∧ W3.cell? ⟨B3, K, none⟩ = some (Value.slice au nu cu) ∧ Ts W3 (.slice au nu cu) x ∧ Bd x from by
    match K, hK with
    | 0, _ => exact ⟨_, _, _, _, rfl, hd0, hfA.below hB3, hTA⟩
    | 1, _ => exact ⟨_, _, _, _, rfl, hd1, hfB.below hB3, hTB⟩
    | 2, _ => exact ⟨_, _, _, _, rfl, hd2, hfC.below hB3, hTC⟩))
  have HUE := Lib.hid hue
  have HTU := Lib.hid htu3
  have HN7 := Lib.hid hn7
  clear hd0 hd1 hd2 hue htu3 hn7
  go_wp2_with fail
  go_loopw [10] (fun i wr => ∃ K : Nat, i = .int .i64 (K : Int) ∧ K ≤ 3 ∧ Hid ((∀ j, j < K → ∀ y, [x0, x1, x2][j]? = some y → right9 y = true) ∧ Below W3.heap.size W3 wr)) (fun i _ => 3 - (intOf i).toNat)
  case atStart => exact ⟨0, rfl, Nat.zero_le _, Lib.hid ⟨fun j hj => absurd hj (Nat.not_lt_zero _), Below.refl _ _⟩⟩
  case round =>
    obtain ⟨K, rfl, hK, HJ⟩ := hrel
    by_cases hlt : K < 3
    · have hltI : (K : Int) < 3 := by omega
      have hk0 : 0 ≤ (K : Int) := by omega
      have hw1 : IntKind.i64.wrap ((K : Int) + 1) = (K : Int) + 1 := IntWalk.i64_in _ (by omega)
      obtain ⟨au, nu', cu, x, hx, hcell, hTx, hBx⟩ := HCL.out K hlt
      have hc1 := cell_b HJ.out.2 hcell
      have CK := Lib.hid (refCheck9_any x _ wr (hTx.below HJ.out.2) hBx.big)
      have hr := check9_right x
      have hbad : right9 x = false → nu = [] ∧ eu = (check9 x).2 := fun h => by
        have := union_bad HJ.out.1 hx h
        rw [HUE.out] at this
        cases this
        exact ⟨rfl, rfl⟩
      obtain ⟨⟨k, e⟩, hke⟩ : ∃ c, check9 x = c := ⟨_, rfl⟩
      rw [hke] at CK hr hbad
      clear hke hcell hTx hBx
      by_cases he : e = 0
      · subst he
        have HR := Lib.hid (hr.1 rfl)
        have HX := Lib.hid hx
        clear hr hbad hx
        go_wp2_with (go_at_call 9; refine CK.out.mono ?_; rintro _ w4 ⟨rfl, hb4⟩; have HB4 := Lib.hid (HJ.out.2.trans (hb4.mono HJ.out.2.size)); clear hb4)
        go_roundw
        case rel =>
          refine ⟨K + 1, by go_num, by omega, Lib.hid ⟨fun j hj y hy => ?_, HB4.out⟩⟩
          by_cases hjK : j = K
          · subst hjK
            rw [HX.out] at hy
            cases hy
            exact HR.out
          · exact HJ.out.1 j (by omega) y hy
        case measure => simp [intOf]; omega
      · obtain ⟨rfl, rfl⟩ := hbad (by
          cases h : right9 x with
          | false => rfl
          | true => exact absurd (hr.2 h) he)
        have he0 : (eu != 0) = true := bne_iff_ne.2 he
        have hee : (eu == eu) = true := beq_self_eq_true _
        obtain rfl : n7 = 0 := HN7.out.symm
        clear hr hbad hx
        go_wp2_with (go_at_call 9; refine CK.out.mono ?_; rintro _ w4 ⟨rfl, hb4⟩; have HB4 := Lib.hid (HJ.out.2.trans (hb4.mono HJ.out.2.size)); clear hb4)
        refine (awake9_any F _).mono ?_
        rintro _ w5 ⟨rfl, hb5⟩
        go_wp2_with fail
        go_ret
        exact ⟨by simp, hB3.trans ((HB4.out.trans (hb5.mono HB4.out.size)).mono hB3.size)⟩
    · have hltI : ¬ (K : Int) < 3 := by omega
      obtain rfl : K = 3 := by omega
      have hall : ∀ l ∈ [x0, x1, x2], right9 l = true := fun l hl => by
        obtain ⟨j, hj, rfl⟩ := List.getElem_of_mem hl
        exact HJ.out.1 j (by simpa using hj) _ (List.getElem?_eq_getElem hj)
      have hgood := union_good hall
      rw [HUE.out] at hgood
      have hfl : [x0, x1, x2].flatten = x0 ++ x1 ++ x2 := by simp
      rw [hfl] at hgood
      have HG := Lib.hid hgood
      have HA := Lib.hid hall
      clear hgood hall hfl hlt
      have hB4 := hB3.trans (HJ.out.2.mono hB3.size)
      have hTA4 := hfA.below hB4
      have hTB4 := hfB.below hB4
      have hTC4 := hfC.below hB4
      go_wp2_with (first | (at_builtin; refine wpList_append_ts _ rfl _ _ 22 9 rfl wr.heap.size i0 Try.underlying22 hi hz0 hz1 hz2 _ 0 [] rfl (owns_made wr _ (.string ⟨#[]⟩) 0 (by decide)) x0 aA mA cA rfl (hTA4.below (below_new wr _)) hzA (by omega) (below_new wr _).size ?_; intro vA wA hoA hbA; have hqA := (below_new wr _).trans hbA) | (at_builtin; refine wpList_append_ts _ rfl _ _ 22 9 rfl wr.heap.size i0 Try.underlying22 hi hz0 hz1 hz2 _ _ _ rfl hoA x1 aB mB cB rfl (hTB4.below hqA) hzB (by omega) hqA.size ?_; intro vB wB hoB hbB; have hqB := hqA.trans hbB) | (at_builtin; refine wpList_append_ts _ rfl _ _ 22 9 rfl wr.heap.size i0 Try.underlying22 hi hz0 hz1 hz2 _ _ _ rfl hoB x2 aC mC cC rfl (hTC4.below hqB) hzC (by omega) hqB.size ?_; intro vC wC hoC hbC; have hqC := hqB.trans hbC))
      have hts : Ts wC vC (x0 ++ x1 ++ x2) := ts_own (by rw [List.map_append, List.map_append]; exact hoC)
      have hBd : Bd (x0 ++ x1 ++ x2) := ⟨by simp; omega, fun x hx => by
        simp only [List.mem_append] at hx
        rcases hx with (hx | hx) | hx
        · exact hTA.2 x hx
        · exact hTB.2 x hx
        · exact hTC.2 x hx⟩
      refine (refLeast_any (x0 ++ x1 ++ x2) vC wC hts (by simp; omega) hBd.big1).mono ?_
      rintro _ w9 ⟨u9, rfl, ht9, hb9⟩
      have hq9 := hqC.trans (hb9.mono hqC.size)
      have hB9 := hB4.trans (hq9.mono hB4.size)
      have hT9 := HTU.out.below (HJ.out.2.trans (hq9.mono HJ.out.2.size))
      have hA9 := hTA4.below hq9
      have hB92 := hTB4.below hq9
      have hC9 := hTC4.below hq9
      clear hb9 hq9 hqC hqB hqA hbA hbB hbC hoA hoB hoC hts hTA4 hTB4 hTC4 hB4 hB3 hfA hfB hfC
      have hrA := HA.out x0 (by simp)
      have hrB := HA.out x1 (by simp)
      have hrC := HA.out x2 (by simp)
      have hpat : ∀ x ∈ x0 ++ x1 ++ x2, patP x = true := fun x hx => by
        simp only [List.mem_append] at hx
        rcases hx with (hx | hx) | hx
        · exact (right_all hrA).2 x hx
        · exact (right_all hrB).2 x hx
        · exact (right_all hrC).2 x hx
      obtain ⟨a9, c9, rfl, -⟩ := id ht9.open
      obtain ⟨n9, hn9⟩ : ∃ n, (leastL (x0 ++ x1 ++ x2)).length = n := ⟨_, rfl⟩
      rw [hn9]
      have hG := HG.out
      rw [hn9] at hG
      have A := fun (W : World) => awake9_any F W
      by_cases h8 : 8 < n9
      · have h8I : (8 : Int) < (n9 : Int) := by omega
        rw [if_pos h8] at hG
        cases hG
        obtain rfl : n7 = 0 := HN7.out.symm
        clear h8 hT9 hA9 hB92 hC9 ht9
        go_wp2_with fail
        refine (A _).mono ?_
        rintro _ wx ⟨rfl, hbx⟩
        go_wp2_with fail
        go_ret
        exact ⟨by simp, hB9.trans (hbx.mono hB9.size)⟩
      · have h8I : ¬ (8 : Int) < (n9 : Int) := by omega
        rw [if_neg h8] at hG
        cases hG
        obtain rfl : n7 = n9 := HN7.out.symm.trans hn9
        have hR : right9 (leastL (x0 ++ x1 ++ x2)) = true := by
          unfold right9
          rw [Bool.and_eq_true, decide_eq_true_eq, List.all_eq_true]
          exact ⟨by omega, fun x hx => hpat x (least_sub hx)⟩
        have hs3 : hasF (leastL (x0 ++ x1 ++ x2)) s = (hasF x0 s || hasF x1 s || hasF x2 s) := by
          rw [any_least_append s _ hpat hR]
          unfold hasF
          rw [hrA, hrB, hrC]
          simp [Bool.or_assoc]
        have hBL := hBd.least
        rw [hn9] at ht9 hT9
        have SM := fun (W : World) (hb : Below w9.heap.size w9 W) => same9_any _ _ _ W hBL.1 (hT9.below hb) (ht9.below hb)
        have HU := fun (W : World) (hb : Below w9.heap.size w9 W) => F.has _ s _ W (hT9.below hb) hBL hs
        have H0 := fun (W : World) (hb : Below w9.heap.size w9 W) => F.has x0 s _ W (hA9.below hb) hTA hs
        have H1 := fun (W : World) (hb : Below w9.heap.size w9 W) => F.has x1 s _ W (hB92.below hb) hTB hs
        have H2 := fun (W : World) (hb : Below w9.heap.size w9 W) => F.has x2 s _ W (hC9.below hb) hTC hs
        rw [hs3] at HU
        clear h8 hs3 hR hpat HG HUE
        obtain ⟨b0, e0⟩ : ∃ b, hasF x0 s = b := ⟨_, rfl⟩
        obtain ⟨b1, e1⟩ : ∃ b, hasF x1 s = b := ⟨_, rfl⟩
        obtain ⟨b2, e2⟩ : ∃ b, hasF x2 s = b := ⟨_, rfl⟩
        rw [e0, e1, e2] at HU
        rw [e0] at H0
        rw [e1] at H1
        rw [e2] at H2
        clear e0 e1 e2
        have h0 := Below.refl w9.heap.size w9
        go_wp2_with fail
        refine (A _).mono ?_
        rintro _ wx ⟨rfl, h1⟩
        go_wp2_with fail
        refine (SM _ h1).mono ?_
        rintro _ y2 ⟨rfl, hb2⟩
        have h2 := h1.trans (hb2.mono h1.size)
        clear hb2
        go_wp2_with fail
        refine (HU _ h2).mono ?_
        rintro _ y3 ⟨rfl, hb3⟩
        have h3 := h2.trans (hb3.mono h2.size)
        clear hb3
        go_wp2_with fail
        refine (H0 _ h3).mono ?_
        rintro _ y4 ⟨rfl, hb4⟩
        have h4 := h3.trans (hb4.mono h3.size)
        clear hb4
        cases b0 with
        | true =>
          go_wp2_with fail
          go_ret
          exact ⟨by simp, hB9.trans (h4.mono hB9.size)⟩
        | false =>
          go_wp2_with fail
          refine (H1 _ h4).mono ?_
          rintro _ y5 ⟨rfl, hb5⟩
          have h5 := h4.trans (hb5.mono h4.size)
          clear hb5
          cases b1 with
          | true =>
            go_wp2_with fail
            go_ret
            exact ⟨by simp, hB9.trans (h5.mono hB9.size)⟩
          | false =>
            go_wp2_with fail
            refine (H2 _ h5).mono ?_
            rintro _ y6 ⟨rfl, hb6⟩
            have h6 := h5.trans (hb6.mono h5.size)
            clear hb6
            go_wp2_with fail
            go_ret
            exact ⟨by simp, hB9.trans (h6.mono hB9.size)⟩

theorem lifted (os : Os) (started : os.Started) (H : Type) (enc : TypeId × Value → H) :
    ReturnsInHanded {} Try.checked os 6 .any (Rows.filterUnionSpec.pre6 enc Try.prog Try.f6 Rows.filterUnionRow.domain false) (Rows.filterUnionSpec.post enc Try.prog Try.f6 false true false false) := by
  refine returnsInHanded_of_change_sized (C := Try.checked) own started (by kernel_rfl) Try.func6
    (ChangeSpec.witness6 (enc := enc) (C := Try.checked) false ⟨#[], #[.agg #[.slice none 0 0, .slice none 0 0, .slice none 0 0, .string ⟨#[]⟩]], []⟩ 8 (by kernel_rfl) (by kernel_rfl) (by kernel_rfl) (by kernel_rfl)) ?_
  intro W base args ds gs before hval0 hW hcnd hsz0 _
  have hsz : (DataW.weightsEach Try.prog (Try.f6.params.toList ++ Rows.filterUnionSpec.plain.varTypes Try.prog) (ds ++ gs)).all (· ≤ reachBytes) = true := hsz0
  clear hsz0
  have hval : ∀ (j : Nat) t v, Try.f6.params[j]? = some t → args[j]? = some v → Value.okWide Try.prog W .any base t v := hval0
  have hW' := hW
  obtain ⟨p, q, hA0, hV, rfl, hfz, hnd⟩ := hW
  have hA : DataW.TrodAll enc Try.prog W 0 (fun _ => true) true Try.f6.params.toList args.toList ds p := hA0
  rw [Try.params6] at hA hval hsz
  obtain ⟨v0, vs0, d0, ds0, p0, q0, hargs, rfl, rfl, h0, r0⟩ := trodAll_cons hA
  obtain ⟨rfl, rfl, rfl⟩ := trodAll_nil r0
  obtain rfl : args = #[v0] := by cases args; simp_all
  obtain ⟨cs, rfl, hcs⟩ := okWide_struct Try.underlying33 (hval 0 33 v0 rfl rfl)
  have hcs4 : cs.toList.length = 4 := by rw [Array.length_toList, hcs]; kernel_rfl
  obtain ⟨z0, z1, z2, z3, hz⟩ : ∃ a b c d, cs.toList = [a, b, c, d] := by
    generalize cs.toList = l at hcs4
    match l, hcs4 with
    | [a, b, c, d], _ => exact ⟨a, b, c, d, rfl⟩
  obtain rfl : cs = #[z0, z1, z2, z3] := by
    apply Array.ext'
    rw [hz]
  obtain ⟨fuel, hf⟩ := h0
  obtain ⟨xs, n, _, hx, _, hxl, hg⟩ := DataW.trod_struct Try.underlying33 hf
  simp only [Prod.mk.injEq] at hx
  obtain ⟨rfl, _⟩ := hx
  obtain ⟨y0, y1, y2, y3, rfl⟩ : ∃ a b c d, xs = [a, b, c, d] := by
    match xs, hxl with
    | [a, b, c, d], _ => exact ⟨a, b, c, d, rfl⟩
  have g0 : DataW.trod enc Try.prog W 0 (fun _ => true) true n 22 [z0] = some y0 := hg 0 _ rfl
  have g1 : DataW.trod enc Try.prog W 0 (fun _ => true) true n 22 [z1] = some y1 := hg 1 _ rfl
  have g2 : DataW.trod enc Try.prog W 0 (fun _ => true) true n 22 [z2] = some y2 := hg 2 _ rfl
  have g3 : DataW.trod enc Try.prog W 0 (fun _ => true) true n 9 [z3] = some y3 := hg 3 _ rfl
  have hb : ∀ m ∈ DataW.weightsEach Try.prog [22, 22, 22, 9] [y0.1, y1.1, y2.1, y3.1], m ≤ reachBytes := fun m hm => by
    have h := List.all_eq_true.1 hsz m (DataW.weights_mem_each (j := 0) (t := 33) rfl rfl m (by
      unfold DataW.weights
      rw [Try.underlying33]
      exact hm))
    simpa using h
  obtain ⟨aA, nA, cA, A, rfl, hcA, htA, hBA, hzA⟩ := strs_all Try.underlying22 Try.underlying9 (by kernel_rfl) (by kernel_rfl) g0 (fun m hm => hb m (DataW.weights_mem_each (j := 0) rfl rfl m hm))
  obtain ⟨aB, nB, cB, B, rfl, hcB, htB, hBB, hzB⟩ := strs_all Try.underlying22 Try.underlying9 (by kernel_rfl) (by kernel_rfl) g1 (fun m hm => hb m (DataW.weights_mem_each (j := 1) rfl rfl m hm))
  obtain ⟨aC, nC, cC, C, rfl, hcC, htC, hBC, hzC⟩ := strs_all Try.underlying22 Try.underlying9 (by kernel_rfl) (by kernel_rfl) g2 (fun m hm => hb m (DataW.weights_mem_each (j := 2) rfl rfl m hm))
  obtain ⟨s3, hs3, hy3, _⟩ := DataW.trod_string Try.underlying9 g3
  obtain rfl : z3 = .string s3 := by cases hs3; rfl
  have hs : s3.data.toList.length ≤ 140737488355328 := by
    have h := hb s3.data.toList.length (DataW.weights_mem_each (j := 3) rfl rfl _ (by rw [hy3]; unfold DataW.weights; simp))
    have h2 := reachBytes_lt
    omega
  have hw := walk filt A B C s3.data.toList _ _ _ _ _ _ _ _ _ W htA hBA hcA htB hBB hcB htC hBC hcC hzA hzB hzC hs
  rw [str_eq] at hw
  refine hw.mono fun e W' ⟨he, hb⟩ => ?_
  subst he
  exact ⟨_, rfl, post_law hW' hb laidOut rfl rfl rfl Try.underlying4 (by rw [Try.params6]; decide +kernel)⟩

theorem over : Rows.filterUnionRow.holds Try.pinned (OpenSpec.ofChange Rows.filterUnionSpec) :=
  OpenClaim.holds_of_wide 6 Try.f6 rfl rfl rfl rfl rfl rfl rfl ⟨rfl, rfl, rfl, rfl, rfl⟩ rfl rfl rfl rfl rfl (by kernel_rfl) Try.func6 (by kernel_rfl)
    (of_decide_eq_true (by kernel_rfl)) (by unfold Func.isWrapper; first | (rw [if_pos (by decide +kernel)]; kernel_rfl) | (rw [if_neg (by decide +kernel)]; exact ⟨rfl, rfl⟩))
    (fun os started H enc _ => lifted os started H enc)

theorem proved : Rows.FilterUnionSaid := over
#print axioms proved
end Go.Proofs.Ytbpphghphfbogaa.filterUnion
