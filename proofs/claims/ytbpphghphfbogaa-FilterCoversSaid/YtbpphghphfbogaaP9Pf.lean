/-
  Layer 9, the program: rows of texts that are written to, slices.DeleteFunc.
-/
import Derived.Test.YtbpphghphfbogaaP9Pc
import Derived.Test.YtbpphghphfbogaaP9Pd
import Derived.Lib.SliceRun
namespace Go.Proofs.Ytbpphghphfbogaa.P8
open Go Go.RowKit Go.Shelf Go.Proofs Go.Proofs.Ytbpphghphfbogaa.B Go.Proofs.Ytbpphghphfbogaa.K
set_option linter.unusedVariables false
set_option maxRecDepth 100000

/-- A row of texts in a block of its own. -/
def Rw (W : World) (g cap : Nat) (xs : List (List UInt8)) : Prop := ∃ cur, W.heap[g]? = some (.cells cur 9 (0, 0)) ∧ cur.size = cap ∧ cur.toList.take xs.length = xs.map sv
theorem Rw.lt {W : World} {g cap : Nat} {xs : List (List UInt8)} (h : Rw W g cap xs) : g < W.heap.size := by
  obtain ⟨cur, h1, _⟩ := h
  exact (Array.getElem?_eq_some_iff.1 h1).1
theorem Rw.len {W : World} {g cap : Nat} {xs : List (List UInt8)} (h : Rw W g cap xs) : xs.length ≤ cap := by
  obtain ⟨cur, h1, h2, h3⟩ := h
  have := congrArg List.length h3
  rw [List.length_take, List.length_map] at this
  have h5 : cur.toList.length = cur.size := Array.length_toList
  omega
theorem Rw.below {W W' : World} {g cap : Nat} {xs : List (List UInt8)} (h : Rw W g cap xs) (hb : Below W.heap.size W W') : Rw W' g cap xs := by
  have hlt := h.lt
  obtain ⟨cur, h1, h2, h3⟩ := h
  exact ⟨cur, (hb.block g hlt).trans h1, h2, h3⟩
theorem Rw.cell {W : World} {g cap j : Nat} {xs : List (List UInt8)} {x : List UInt8} (h : Rw W g cap xs) (hj : xs[j]? = some x) : W.cell? ⟨g, j, none⟩ = some (.string (str x)) ∧ W.frozen? ⟨g, j, none⟩ = false := by
  obtain ⟨cur, h1, h2, h3⟩ := h
  have hlt := (List.getElem?_eq_some_iff.1 hj).1
  have h4 : cur[j]? = some (sv x) := by
    rw [← Array.getElem?_toList, ← List.getElem?_take_of_lt hlt, h3, List.getElem?_map, hj]; rfl
  exact ⟨by simp [World.cell?, h1, h4, sv], by simp [World.frozen?, h1]⟩
theorem Rw.set {W : World} {g cap j : Nat} {xs : List (List UInt8)} (h : Rw W g cap xs) (x : List UInt8) : Rw (W.setCell ⟨g, j, none⟩ (.string (str x))) g cap (xs.set j x) := by
  obtain ⟨cur, h1, h2, h3⟩ := h
  refine ⟨cur.setIfInBounds j (.string (str x)), heap_setCell_same W g j cur _ _ h1, by simpa using h2, ?_⟩
  rw [Array.toList_setIfInBounds, List.length_set, List.take_set, h3, List.map_set]; rfl
theorem Rw.set_out {W : World} {g cap j : Nat} {xs : List (List UInt8)} (h : Rw W g cap xs) (v : Value) (hj : xs.length ≤ j) : Rw (W.setCell ⟨g, j, none⟩ v) g cap xs := by
  obtain ⟨cur, h1, h2, h3⟩ := h
  refine ⟨cur.setIfInBounds j v, heap_setCell_same W g j cur _ _ h1, by simpa using h2, ?_⟩
  rw [Array.toList_setIfInBounds, List.take_set_of_le hj, h3]
theorem Rw.sets_out : ∀ (vs : List Value) {W : World} {g cap j : Nat} {xs : List (List UInt8)}, Rw W g cap xs → xs.length ≤ j → Rw (W.setCells g j vs) g cap xs
  | [], _, _, _, _, _, h, _ => h
  | v :: r, _, _, _, j, _, h, hj => Rw.sets_out r (h.set_out v hj) (by omega)
theorem Tg.sets : ∀ (vs : List Value) (W : World) (g j : Nat), Tg g W (W.setCells g j vs)
  | [], W, g, _ => Tg.refl g W
  | v :: r, W, g, j => (Tg.set W g j v).trans (Tg.sets r _ g (j + 1))
theorem Rw.take {W : World} {g cap : Nat} {xs : List (List UInt8)} (h : Rw W g cap xs) (k : Nat) : Rw W g cap (xs.take k) := by
  obtain ⟨cur, h1, h2, h3⟩ := h
  refine ⟨cur, h1, h2, ?_⟩
  rw [List.length_take, ← List.take_take, h3, List.map_take]
theorem Rw.tg {W W' : World} {g g' cap : Nat} {xs : List (List UInt8)} (h : Rw W g cap xs) (t : Tg g' W W') (hne : g ≠ g') : Rw W' g cap xs := by
  have hlt := h.lt
  obtain ⟨cur, h1, h2, h3⟩ := h
  exact ⟨cur, (t.block g hlt hne).trans h1, h2, h3⟩
theorem Rw.owns {W : World} {g cap base : Nat} {xs : List (List UInt8)} (h : Rw W g cap xs) (hb : base ≤ g) (hm : cap ≤ maxLen) : W.ownsRow base 9 1 (.slice (some ⟨g, 0, none⟩) xs.length cap) xs.length (xs.map sv) := by
  have hl := h.len
  obtain ⟨cur, h1, h2, h3⟩ := h
  exact ⟨by simp, .inr ⟨g, cap, cur, rfl, hb, h1, hl, hm, by simpa using h2, by simpa using h3⟩⟩
theorem rw_of {W : World} {base : Nat} {v : Value} {xs : List (List UInt8)} (h : W.ownsRow base 9 1 v xs.length (xs.map sv)) :
    (v = .slice none 0 0 ∧ xs = []) ∨ ∃ g cap, v = .slice (some ⟨g, 0, none⟩) xs.length cap ∧ base ≤ g ∧ cap ≤ maxLen ∧ Rw W g cap xs := by
  rcases h.2 with ⟨rfl, h0⟩ | ⟨g, cap, cur, rfl, h1, h2, h3, h4, h5, h6⟩
  · exact Or.inl ⟨rfl, List.eq_nil_of_length_eq_zero h0⟩
  · exact Or.inr ⟨g, cap, rfl, h1, h4, cur, h2, by simpa using h5, by simpa using h6⟩

theorem idx_spec (p : List UInt8 → Bool) : ∀ (l : List (List UInt8)) (k : Nat), (idxF p l k = -1 ∧ (l.filter fun x => !p x) = l) ∨ ∃ (i : Nat) (x : List UInt8), idxF p l k = ((k + i : Nat) : Int) ∧ l[i]? = some x ∧ p x = true ∧ ((l.take i).filter fun x => !p x) = l.take i
  | [], _ => Or.inl ⟨rfl, rfl⟩
  | x :: l, k => by
    unfold idxF
    cases hp : p x with
    | true => exact Or.inr ⟨0, x, by simp, rfl, hp, rfl⟩
    | false =>
      rcases idx_spec p l (k + 1) with ⟨h1, h2⟩ | ⟨i, y, h1, h2, h3, h4⟩
      · left
        refine ⟨by simpa using h1, ?_⟩
        rw [List.filter_cons_of_pos (by simp [hp]), h2]
      · right
        refine ⟨i + 1, y, ?_, by simpa using h2, h3, ?_⟩
        · simp only [Bool.false_eq_true, if_false]
          rw [h1]
          congr 1
          omega
        · rw [List.take_succ_cons, List.filter_cons_of_pos (by simp [hp]), h4]

/-- What a function that is asked of texts answers, wherever the world is fit. -/
def PredOk (Ok : World → Prop) (f : Nat) (lb : Array Value) (p : List UInt8 → Bool) (l : List (List UInt8)) : Prop :=
  ∀ (W : World) (x : List UInt8), x ∈ l → Ok W → Calls Try.prog f (#[.string (str x)] ++ lb) W fun e w' => e = .returned (.bool (p x)) ∧ Below W.heap.size W w'

theorem filter_step {l : List (List UInt8)} {K : Nat} {x : List UInt8} (F : List UInt8 → Bool) (h : l[K]? = some x) : (l.take (K + 1)).filter F = (l.take K).filter F ++ (if F x then [x] else []) := by
  rw [List.take_add_one, h, List.filter_append]
  congr 1
  cases hF : F x <;> simp [hF]

set_option maxHeartbeats 2000000 in
theorem deleteFunc_row (Ok : World → Prop) (f : Nat) (lb : Array Value) (p : List UInt8 → Bool) (ef : Ent f) (l : List (List UInt8)) (g cap : Nat) (w : World) (hR : Rw w g cap l) (hcm : cap ≤ maxLen) (hn : l.length ≤ 1000000)
    (hp : PredOk Ok f lb p l) (hOk : Ok w) (hokb : ∀ W W', Ok W → Below W.heap.size W W' → Ok W') (hokt : ∀ W j x, Ok W → Ok (W.setCell ⟨g, j, none⟩ x)) :
    Calls Try.prog 67 #[.slice (some ⟨g, 0, none⟩) l.length cap, .func (.func f) #[] lb] w fun e w' =>
      e = .returned (.slice (some ⟨g, 0, none⟩) (l.filter fun x => !p x).length cap) ∧ Rw w' g cap (l.filter fun x => !p x) ∧ Tg g w w' := by
  obtain ⟨i0, hinf, hz0, hz1, hz2⟩ := info_parts Try.info9
  obtain ⟨N, hN⟩ : ∃ N, l.length = N := ⟨_, rfl⟩
  have hT : Ts w (.slice (some ⟨g, 0, none⟩) l.length cap) l := ts_own (hR.owns (Nat.le_refl _) hcm)
  have HI := Lib.hid (indexFunc_any l _ f lb p w hT (by omega) ef (fun W x hx hW => hp W x hx (hokb _ _ hOk hW)))
  have hlen : N ≤ cap := by rw [← hN]; exact hR.len
  have HR := Lib.hid hR
  have HN := Lib.hid hN
  have HP := Lib.hid hp
  have HK := Lib.hid hOk
  have HKB := Lib.hid hokb
  have HKT := Lib.hid hokt
  have hspec := idx_spec p l 0
  rw [hN] at HI hn ⊢
  unfold Ent at ef
  clear hT hR hp hOk hokb hokt hN
  rcases hspec with ⟨h1, h2⟩ | ⟨i, x, h1, h2, h3, h4⟩
  · rw [h1] at HI
    have H2 := Lib.hid h2
    clear h1 h2
    go_enter Try.func67, Try.ntmps67
    go_wp2_with (go_at_call 52; refine HI.out.mono ?_; rintro _ w1 ⟨rfl, hb1⟩; have HB1 := Lib.hid hb1; clear hb1)
    go_ret
    exact ⟨by rw [H2.out, HN.out]; rfl, by rw [H2.out]; exact HR.out.below HB1.out, Tg.of_below HB1.out⟩
  · rw [Nat.zero_add] at h1
    have hi : i < N := by rw [← HN.out]; exact (List.getElem?_eq_some_iff.1 h2).1
    have hne : ((i : Int) == -1) = false := beq_eq_false_iff_ne.2 (by omega)
    have hwi : IntKind.i64.wrap ((i : Int) + 1) = (i : Int) + 1 := IntWalk.i64_in _ (by omega)
    rw [h1] at HI
    have HS := Lib.hid (show ((l.take (i + 1)).filter fun x => !p x) = l.take i by rw [filter_step _ h2, h4, h3]; simp)
    clear h1 h2 h3 h4
    go_enter Try.func67, Try.ntmps67
    go_wp2_with (go_at_call 52; refine HI.out.mono ?_; rintro _ w1 ⟨rfl, hb1⟩; have HB1 := Lib.hid hb1; clear hb1)
    go_loopw [5, 6] (fun i k wr => ∃ (I K : Nat) (xs : List (List UInt8)), i = .int .i64 (I : Int) ∧ k = .int .i64 (K : Int) ∧ I < K ∧ K ≤ N ∧ Hid (xs.length = N ∧ xs.take I = ((l.take K).filter fun x => !p x) ∧ xs.drop K = l.drop K ∧ Rw wr g cap xs ∧ Tg g w wr ∧ Ok wr)) (fun _ k _ => N - (intOf k).toNat)
    case atStart => exact ⟨i, i + 1, l, rfl, by go_num, Nat.lt_succ_self _, by omega, Lib.hid ⟨HN.out, HS.out.symm, rfl, HR.out.below HB1.out, Tg.of_below HB1.out, HKB.out _ _ HK.out HB1.out⟩⟩
    case round =>
      obtain ⟨I, K, xs, rfl, rfl, hIK, hK, HJ⟩ := hrel
      have hcl : I < N → ∀ ty, (Builtin.clear_ #[22] ty #[.slice (some ⟨g, I, none⟩) (N - I) (cap - I)]).run Try.prog wr = .ok (.tuple #[]) (wr.setCells g I (List.replicate (N - I) (.string ⟨#[]⟩))) := fun hIN ty =>
        Lib.run_clear_slice wr _ _ ty _ Try.underlying22 (fun w => by simp [zeroValue, typeInfo, hinf, hz0]) rfl rfl g I _ _ (by omega)
          (fun j hj => by rw [(HJ.out.2.2.2.1.cell (List.getElem?_eq_getElem (show I + j < xs.length by rw [HJ.out.1]; omega))).1]; rfl) (fun j hj => (HJ.out.2.2.2.1.cell (List.getElem?_eq_getElem (show I + j < xs.length by rw [HJ.out.1]; omega))).2)
      by_cases hlt : K < N
      · have hltI : (K : Int) < (N : Int) := by omega
        have hk0 : 0 ≤ (K : Int) := by omega
        have hi0 : 0 ≤ (I : Int) := by omega
        have hiN : (I : Int) < (N : Int) := by omega
        have hw1 : IntKind.i64.wrap ((K : Int) + 1) = (K : Int) + 1 := IntWalk.i64_in _ (by omega)
        have hw2 : IntKind.i64.wrap ((I : Int) + 1) = (I : Int) + 1 := IntWalk.i64_in _ (by omega)
        obtain ⟨y, hy⟩ : ∃ y, l[K]? = some y := ⟨_, List.getElem?_eq_getElem (by rw [HN.out]; exact hlt)⟩
        have hyx : xs[K]? = some y := by
          have h := congrArg (fun m => m[0]?) HJ.out.2.2.1
          simp only [List.getElem?_drop, Nat.add_zero] at h
          rw [h, hy]
        obtain ⟨z, hz⟩ : ∃ z, xs[I]? = some z := ⟨_, List.getElem?_eq_getElem (by rw [HJ.out.1]; omega)⟩
        obtain ⟨hc1, hf1⟩ := HJ.out.2.2.2.1.cell hyx
        have HV := Lib.hid (HP.out wr y (List.mem_of_getElem? hy) HJ.out.2.2.2.2.2)
        have hfs := filter_step (fun x => !p x) hy
        have hdr : xs.drop (K + 1) = l.drop (K + 1) := by rw [← List.drop_drop, HJ.out.2.2.1, List.drop_drop]
        have HDR := Lib.hid hdr
        have HZ := Lib.hid hz
        obtain ⟨c, hc⟩ : ∃ c, p y = c := ⟨_, rfl⟩
        rw [hc] at HV
        simp only [hc] at hfs
        have HFS := Lib.hid hfs
        clear hfs hyx hdr hz hy hc hcl
        cases c with
        | true =>
          go_wp2_with (go_at_fn f; refine HV.out.mono ?_; rintro _ w2 ⟨rfl, hb2⟩; have HB2 := Lib.hid hb2; clear hb2)
          go_roundw
          case rel => exact ⟨I, K + 1, xs, rfl, by go_num, by omega, by omega, Lib.hid ⟨HJ.out.1, by rw [HFS.out, HJ.out.2.1]; simp, HDR.out, HJ.out.2.2.2.1.below HB2.out, HJ.out.2.2.2.2.1.trans (Tg.of_below HB2.out), HKB.out _ _ HJ.out.2.2.2.2.2 HB2.out⟩⟩
          case measure => simp [intOf]; omega
        | false =>
          go_wp2_with (go_at_fn f; refine HV.out.mono ?_; rintro _ w2 ⟨rfl, hb2⟩; have HB2 := Lib.hid hb2; obtain ⟨hc2, hf2⟩ := (HJ.out.2.2.2.1.below hb2).cell HZ.out; clear hb2)
          go_roundw
          case rel =>
            have hR2 := HJ.out.2.2.2.1.below HB2.out
            refine ⟨I + 1, K + 1, xs.set I y, by go_num, by go_num, by omega, by omega, Lib.hid ⟨by rw [List.length_set]; exact HJ.out.1, ?_, ?_, hR2.set y, (HJ.out.2.2.2.2.1.trans (Tg.of_below HB2.out)).trans (Tg.set _ _ _ _), HKT.out _ _ _ (HKB.out _ _ HJ.out.2.2.2.2.2 HB2.out)⟩⟩
            · rw [HFS.out, ← HJ.out.2.1, List.take_add_one, List.take_set_of_le (Nat.le_refl _), List.getElem?_set_self (by rw [HJ.out.1]; omega)]; simp
            · rw [List.drop_set_of_lt (by omega)]; exact HDR.out
          case measure => simp [intOf]; omega
      · have hltI : ¬ (K : Int) < (N : Int) := by omega
        have hi0 : 0 ≤ (I : Int) := by omega
        have hIN : I < N := by omega
        have hIN' : I ≤ N := by omega
        have hIcap : I ≤ cap := by omega
        have hiNI : (I : Int) ≤ (N : Int) := by omega
        have hIcapI : (I : Int) ≤ (cap : Int) := by omega
        have hcl := hcl hIN
        have hne1 : ¬ cap = 0 := by omega
        have hne2 : ¬ cap = I := by omega
        have HE := Lib.hid (show xs.take I = (l.filter fun x => !p x) by rw [HJ.out.2.1, List.take_of_length_le (by rw [HN.out]; omega)])
        have hlen2 : (l.filter fun x => !p x).length = I := by rw [← HE.out, List.length_take, HJ.out.1]; omega
        have HL2 := Lib.hid hlen2
        clear hlen2
        go_wp2_with fail
        go_ret
        refine ⟨by rw [HL2.out]; rfl, ?_, HJ.out.2.2.2.2.1.trans (Tg.sets _ _ _ _)⟩
        rw [← HE.out]
        exact (HJ.out.2.2.2.1.take I).sets_out _ (by rw [List.length_take]; omega)

set_option maxHeartbeats 1000000 in
theorem deleteFunc_nil (f : Nat) (lb : Array Value) (ef : Ent f) (w : World) :
    Calls Try.prog 67 #[.slice none 0 0, .func (.func f) #[] lb] w fun e w' => e = .returned (.slice none 0 0) ∧ Below w.heap.size w w' := by
  have HI := Lib.hid (indexFunc_any [] (.slice none 0 0) f lb (fun _ => false) w (Sl.nil _) (by simp) ef (fun W x hx => by cases hx))
  rw [show idxF (fun _ => false) [] 0 = -1 from rfl] at HI
  go_enter Try.func67, Try.ntmps67
  go_wp2_with (go_at_call 52; refine HI.out.mono ?_; rintro _ w1 ⟨rfl, hb1⟩; have HB1 := Lib.hid hb1; clear hb1)
  go_ret
  exact ⟨rfl, HB1.out⟩
end Go.Proofs.Ytbpphghphfbogaa.P8
