/-
  Plain mathematics of layer 4: there and back: every shown expression's words are derived to it; a sign behind it is told.
-/
import Derived.Test.YtfcdkjhabdpijaaDoorIGram
namespace Go.Proofs.YtfcdkjhabdpijaaDoor.I
open Go Go.Proofs.YtfcdkjhabdpijaaDoor.E
set_option linter.unusedVariables false

theorem toks_bin (p : Nat) (A : List Bs) (w : Bs) (B : List Bs) (h : w ≠ [32]) : toks p (A ++ [[32], w, [32]] ++ B) = toks p A ++ (p + A.flatten.length + 1, w) :: toks (p + A.flatten.length + 1 + w.length + 1) B := by
  rw [List.append_assoc, toks_append]
  simp only [List.cons_append, List.nil_append]
  rw [toks_blank, toks_one _ _ _ h, toks_blank]

theorem bin_ops (o : Int) (h : takes o = 2) : (o = 9 ∨ o = 10) ∨ (o = 6 ∨ o = 7 ∨ o = 8 ∨ o = 11 ∨ o = 12 ∨ o = 13 ∨ o = 14 ∨ o = 15) := by
  have := takes_is o
  omega

theorem sign_at (o : Int) (a b : Ex) (h : o = 6 ∨ o = 7 ∨ o = 8 ∨ o = 11 ∨ o = 12 ∨ o = 13 ∨ o = 14 ∨ o = 15) :
    1 ≤ rank (.bin o a b) ∧ rank (.bin o a b) ≤ 5 ∧ opAt (rank (.bin o a b)) (sign o) = some o ∧ (∀ j, j ≠ rank (.bin o a b) → opAt j (sign o) = none) ∧ sign o ≠ [32] := by
  have key : ∀ (r : Nat) (s : Bs), rank (.bin o a b) = r → sign o = s → 1 ≤ r → r ≤ 5 → opAt r s = some o → (∀ j, j ≤ 5 → j ≠ r → opAt j s = none) → s ≠ [32] →
      1 ≤ rank (.bin o a b) ∧ rank (.bin o a b) ≤ 5 ∧ opAt (rank (.bin o a b)) (sign o) = some o ∧ (∀ j, j ≠ rank (.bin o a b) → opAt j (sign o) = none) ∧ sign o ≠ [32] := by
    intro r s h1 h2 h3 h4 h5 h6 h7
    rw [h1, h2]
    refine ⟨h3, h4, h5, fun j hj => ?_, h7⟩
    by_cases hj5 : j ≤ 5
    · exact h6 j hj5 hj
    · unfold opAt
      rw [if_neg (by omega), if_neg (by omega), if_neg (by omega), if_neg (by omega), if_neg (by omega)]
  have none_of : ∀ (r : Nat) (s : Bs), (opAt 0 s = none ∨ r = 0) → (opAt 1 s = none ∨ r = 1) → (opAt 2 s = none ∨ r = 2) → (opAt 3 s = none ∨ r = 3) → (opAt 4 s = none ∨ r = 4) → (opAt 5 s = none ∨ r = 5) → ∀ j, j ≤ 5 → j ≠ r → opAt j s = none := by
    intro r s h0 h1 h2 h3 h4 h5 j hj hne
    match j, hj with
    | 0, _ => exact h0.resolve_right (fun e => hne e.symm)
    | 1, _ => exact h1.resolve_right (fun e => hne e.symm)
    | 2, _ => exact h2.resolve_right (fun e => hne e.symm)
    | 3, _ => exact h3.resolve_right (fun e => hne e.symm)
    | 4, _ => exact h4.resolve_right (fun e => hne e.symm)
    | 5, _ => exact h5.resolve_right (fun e => hne e.symm)
    | j + 6, h => omega
  rcases h with rfl | rfl | rfl | rfl | rfl | rfl | rfl | rfl
  · exact key 4 [43] rfl rfl (by decide) (by decide) rfl (none_of 4 [43] (by decide) (by decide) (by decide) (by decide) (by decide) (by decide)) (by decide)
  · exact key 4 [45] rfl rfl (by decide) (by decide) rfl (none_of 4 [45] (by decide) (by decide) (by decide) (by decide) (by decide) (by decide)) (by decide)
  · exact key 5 [42] rfl rfl (by decide) (by decide) rfl (none_of 5 [42] (by decide) (by decide) (by decide) (by decide) (by decide) (by decide)) (by decide)
  · exact key 3 [60] rfl rfl (by decide) (by decide) rfl (none_of 3 [60] (by decide) (by decide) (by decide) (by decide) (by decide) (by decide)) (by decide)
  · exact key 3 [60, 61] rfl rfl (by decide) (by decide) rfl (none_of 3 [60, 61] (by decide) (by decide) (by decide) (by decide) (by decide) (by decide)) (by decide)
  · exact key 3 [61] rfl rfl (by decide) (by decide) rfl (none_of 3 [61] (by decide) (by decide) (by decide) (by decide) (by decide) (by decide)) (by decide)
  · exact key 2 [38] rfl rfl (by decide) (by decide) rfl (none_of 2 [38] (by decide) (by decide) (by decide) (by decide) (by decide) (by decide)) (by decide)
  · exact key 1 [124] rfl rfl (by decide) (by decide) rfl (none_of 1 [124] (by decide) (by decide) (by decide) (by decide) (by decide) (by decide)) (by decide)

theorem name_first (s : Bs) (hs : isName s = true) : ∃ c r, s = c :: r ∧ letter c = true := by
  match s, hs with
  | c :: r, hs =>
    simp only [isName, Bool.and_eq_true] at hs
    exact ⟨c, r, rfl, hs.1.1.1.1.2⟩

theorem name_blank (s : Bs) (hs : isName s = true) : s ≠ [32] := name_not s 32 [] hs (by decide)
theorem dig_blank (n : Nat) : dig n ≠ [32] := dig_not n 32 [] (by decide)

/-- The first word of an operand is no number, but of a constant from 0 on. -/
theorem not_near (vs : List Bs) (na : Int) (e : Ex) (ht : There vs na e) (hc : plainCon e = false) (p : Nat) (rest : List Tk) : ¬ near p (wt vs e 6 (p + 1) ++ rest) := by
  have no : ∀ (c : UInt8) (s : Bs) (r : List Tk), digit c = false → ¬ near p ((p + 1, c :: s) :: r) := by
    rintro c s r hd ⟨c', s', r', h, hd'⟩
    cases h
    rw [hd] at hd'; cases hd'
  unfold wt
  by_cases hr : rank e < 6
  · rw [wrap_yes _ _ _ hr, toks_par]
    exact no 40 [] _ (by decide)
  · rw [wrap_no _ _ _ (by omega)]
    cases e with
    | con n =>
      have hn : n < 0 := by
        rcases Int.lt_or_le n 0 with h | h
        · exact h
        · exfalso
          have : plainCon (.con n) = true := decide_eq_true h
          rw [hc] at this; cases this
      unfold pieces
      rw [if_pos hn, toks_one _ _ _ (by decide)]
      exact no 45 [] _ (by decide)
    | var k =>
      obtain ⟨s, hs, hn⟩ := ht
      have hg : vs.getD k [] = s := by rw [List.getD_eq_getElem?_getD, hs]; rfl
      obtain ⟨c, r, hcr, hl⟩ := name_first s hn
      unfold pieces
      rw [hg, toks_one _ _ _ (name_blank s hn), hcr]
      refine no c r _ ?_
      cases hd : digit c with
      | false => rfl
      | true => rw [not_letter hd] at hl; cases hl
    | arg k =>
      unfold pieces
      rw [toks_one _ _ _ (by simp [dig_ne])]
      exact no 36 _ _ (by decide)
    | un o a =>
      unfold pieces
      split
      · split
        · simp only [List.cons_append, List.nil_append]
          rw [toks_one _ _ _ (by decide)]
          exact no 45 [] _ (by decide)
        · simp only [List.cons_append, List.nil_append]
          rw [toks_one _ _ _ (by decide)]
          exact no 45 [] _ (by decide)
      · simp only [List.cons_append, List.nil_append]
        rw [toks_one _ _ _ (by decide)]
        exact no 33 [] _ (by decide)
    | bin o a b =>
      rcases bin_ops o ht.1 with ho | ho
      · unfold pieces
        rw [if_pos ho]
        simp only [List.cons_append, List.nil_append]
        rcases ho with rfl | rfl
        · rw [if_pos rfl, toks_one _ _ _ (by decide)]
          exact no 109 _ _ (by decide)
        · rw [if_neg (by decide), toks_one _ _ _ (by decide)]
          exact no 109 _ _ (by decide)
      · exfalso
        have := (sign_at o a b ho).2.1
        omega
    | ite a b c =>
      unfold pieces
      simp only [List.cons_append, List.nil_append]
      rw [toks_one _ _ _ (by decide)]
      exact no 105 _ _ (by decide)

/-- Every expression's words are derived to it. -/
theorem der (vs : List Bs) (na : Int) (ha : Apart vs) (e : Ex) (ht : There vs na e) : Der vs na e := by
  induction e with
  | con n =>
    have hv := (isVal_iff n).1 ht
    by_cases hn : n < 0
    · refine Der.of_one (by simp [rank, hn]) (fun p rest => ?_)
      unfold pieces
      rw [if_pos hn, toks_one _ _ _ (by decide), toks_one _ _ _ (dig_blank _)]
      have h := Pa.num (vs := vs) (na := na) p n.natAbs rest (by omega)
      rw [show -((n.natAbs : Nat) : Int) = n by omega] at h
      exact h
    · refine Der.of_one (by simp [rank, hn]) (fun p rest => ?_)
      unfold pieces
      rw [if_neg hn, toks_one _ _ _ (dig_blank _)]
      have h := Pa.aNum (vs := vs) (na := na) p n.natAbs rest (by omega)
      rw [show ((n.natAbs : Nat) : Int) = n by omega] at h
      exact Pa.atm _ _ (dig_not _ _ _ (by decide)) (dig_not _ _ _ (by decide)) h
  | var k =>
    obtain ⟨s, hs, hn⟩ := ht
    have hg : vs.getD k [] = s := by rw [List.getD_eq_getElem?_getD, hs]; rfl
    refine Der.of_one (by simp [rank]) (fun p rest => ?_)
    unfold pieces
    rw [hg, toks_one _ _ _ (name_blank s hn)]
    exact Pa.atm _ _ (name_not s _ _ hn (by decide)) (name_not s _ _ hn (by decide)) (Pa.aVar p k s rest hs hn (fun j hj he => by have := ha j k s he hs; omega))
  | arg k =>
    refine Der.of_one (by simp [rank]) (fun p rest => ?_)
    unfold pieces
    rw [toks_one _ _ _ (by simp [dig_ne])]
    exact Pa.atm _ _ (by simp [headB]) (by simp [headB]) (Pa.aArg p k rest ht.1 ht.2)
  | un o a ih =>
    have ih := ih ht.2
    refine Der.of_one (by simp [rank]) (fun p rest => ?_)
    unfold pieces
    rcases ht.1 with rfl | rfl
    · rw [if_pos rfl]
      by_cases hc : plainCon a = true
      · rw [if_pos hc]
        have he : [[45], [40]] ++ pieces vs a ++ [[41]] = [45] :: ([[40]] ++ pieces vs a ++ [[41]]) := by simp
        rw [he, toks_one _ _ _ (by decide), toks_par, List.cons_append, List.cons_append, List.append_assoc]
        refine Pa.neg p _ (codeOf a) rest ?_ ?_
        · rintro ⟨c, s, r, h, hd⟩
          cases h
          revert hd; decide
        · exact in_par (fun p => toks p (pieces vs a)) (codeOf a) (fun p rest hs => ih.whole p rest hs) _ _ _ rest
      · rw [if_neg hc]
        simp only [List.cons_append, List.nil_append]
        rw [toks_one _ _ _ (by decide)]
        exact Pa.neg p _ (codeOf a) rest (not_near vs na a ht.2 (by simpa using hc) p rest) (ih.on (p + 1) rest)
    · rw [if_neg (by decide)]
      simp only [List.cons_append, List.nil_append]
      rw [toks_one _ _ _ (by decide)]
      exact Pa.non p _ (codeOf a) rest (ih.on (p + 1) rest)
  | ite a b c iha ihb ihc =>
    have iha := iha ht.1
    have ihb := ihb ht.2.1
    have ihc := ihc ht.2.2
    refine Der.of_one (by simp [rank]) (fun p rest => ?_)
    unfold pieces
    have he : [wif, [40]] ++ pieces vs a ++ [[44], [32]] ++ pieces vs b ++ [[44], [32]] ++ pieces vs c ++ [[41]] = wif :: [40] :: (pieces vs a ++ ([44] :: [32] :: (pieces vs b ++ ([44] :: [32] :: (pieces vs c ++ [[41]]))))) := by simp
    rw [he, toks_one _ _ _ (by decide), toks_one _ _ _ (by decide), toks_append, toks_one _ _ _ (by decide), toks_blank, toks_append, toks_one _ _ _ (by decide), toks_blank, toks_append, toks_one _ _ _ (by decide)]
    simp only [List.cons_append, List.append_assoc]
    refine Pa.atm _ _ (by show wif ≠ _; decide) (by show wif ≠ _; decide) ?_
    exact Pa.aIf _ _ _ (codeOf a) _ _ (codeOf b) _ _ (codeOf c) _ rest (iha.whole _ _ (stop_of _ _ _ _ (by decide))) (ihb.whole _ _ (stop_of _ _ _ _ (by decide))) (ihc.whole _ _ (stop_of _ _ _ _ (by decide)))
  | bin o a b iha ihb =>
    have iha := iha ht.2.1
    have ihb := ihb ht.2.2
    rcases bin_ops o ht.1 with ho | ho
    · refine Der.of_one (by rcases ho with rfl | rfl <;> simp [rank]) (fun p rest => ?_)
      unfold pieces
      rw [if_pos ho]
      have he : [if o = 9 then wmin else wmax, [40]] ++ pieces vs a ++ [[44], [32]] ++ pieces vs b ++ [[41]] = (if o = 9 then wmin else wmax) :: [40] :: (pieces vs a ++ ([44] :: [32] :: (pieces vs b ++ [[41]]))) := by simp
      have hw : (if o = 9 then wmin else wmax) ≠ [32] ∧ (if o = 9 then wmin else wmax) ≠ [45] ∧ (if o = 9 then wmin else wmax) ≠ [33] := by
        split <;> decide
      rw [he, toks_one _ _ _ hw.1, toks_one _ _ _ (by decide), toks_append, toks_one _ _ _ (by decide), toks_blank, toks_append, toks_one _ _ _ (by decide)]
      simp only [List.cons_append, List.append_assoc]
      refine Pa.atm _ _ hw.2.1 hw.2.2 ?_
      exact Pa.aTwo o _ _ _ (codeOf a) _ _ (codeOf b) _ rest ho (iha.whole _ _ (stop_of _ _ _ _ (by decide))) (ihb.whole _ _ (stop_of _ _ _ _ (by decide)))
    · obtain ⟨h1, h5, hop, hno, hbl⟩ := sign_at o a b ho
      obtain ⟨r, hr⟩ : ∃ r, rank (.bin o a b) = r := ⟨_, rfl⟩
      refine Der.of_level r hr (by omega) (fun p rest x hs hx => ?_)
      rw [hr] at h1 h5 hop hno
      unfold pieces
      rw [if_neg (by omega), hr, toks_bin _ _ _ _ hbl, List.append_assoc, List.cons_append]
      have hstop : ∀ k q R, r < k → Stop k ((q, sign o) :: R) := fun k q R hk j hj _ => hno j (by omega)
      have hb : ∀ q, Pa vs na (.lv (r + 1)) (wt vs b (r + 1) q ++ rest) (.ok (codeOf b) rest) := by
        intro q
        rcases Nat.lt_or_ge r 5 with h | h
        · exact ihb.lv (r + 1) q rest _ (by omega) (by omega) (hs.mono (by omega)) (lo_stop (by omega) hs)
        · obtain rfl : r = 5 := by omega
          exact Pa.six _ _ (ihb.on q rest)
      by_cases h3 : r = 3
      · subst h3
        rw [if_pos rfl]
        have hfl : flag (.bin o a b) 3 = true := decide_eq_true ⟨rfl, hr⟩
        rw [hfl] at hx
        refine Pa.lvGo 3 _ (codeOf a) _ x (by decide) (by decide) (iha.lv 4 p _ _ (by decide) (by decide) (hstop 5 _ _ (by decide)) (lo_stop (by decide) (hstop 4 _ _ (by decide)))) ?_
        exact Pa.loGo 3 false (codeOf a) _ (sign o) o _ (codeOf b) rest x hop (by simp) (hb _) hx
      · rw [if_neg h3]
        have hfl : flag (.bin o a b) r = false := decide_eq_false (by omega)
        have hfa : flag a r = false := decide_eq_false (by omega)
        rw [hfl] at hx
        refine iha.lv r p _ x h1 h5 (hstop _ _ _ (by omega)) ?_
        rw [hfa]
        refine Pa.loGo r false (codeOf a) _ (sign o) o _ (codeOf b) rest x hop (by simp) (hb _) ?_
        rw [decide_eq_false h3]
        exact hx

/-- A sum's sign, and nothing behind it. -/
theorem plus_err (vs : List Bs) (na : Int) (ha : Apart vs) (q z : Nat) (e : Ex) (ht : There vs na e) : ∀ k, 1 ≤ k → k ≤ 4 → ∀ p, Pa vs na (.lv k) (wt vs e k p ++ [(q, [43]), (z, [])]) (.err z 6) := by
  have hend : Pa vs na (.lv 5) [(z, [])] (.err z 6) :=
    Pa.lvErr 5 _ z 6 (by decide) (by decide) (Pa.six _ _ (Pa.atm _ _ (by show ([] : Bs) ≠ _; decide) (by show ([] : Bs) ≠ _; decide) (Pa.aEnd z)))
  have s5 : Stop 5 [(q, [43]), (z, ([] : Bs))] := fun j h1 h2 => by
    obtain rfl : j = 5 := by omega
    rfl
  have at4 : ∀ (e : Ex), There vs na e → ∀ p, Pa vs na (.lv 4) (wt vs e 4 p ++ [(q, [43]), (z, [])]) (.err z 6) := by
    intro e ht p
    refine (der vs na ha e ht).lv 4 p _ _ (by decide) (by decide) s5 ?_
    exact Pa.loErr 4 _ _ q [43] 6 _ z 6 rfl (by simp) hend
  have six : ∀ (e : Ex), There vs na e → 5 < rank e → ∀ k, 1 ≤ k → k ≤ 4 → ∀ p, Pa vs na (.lv k) (wt vs e k p ++ [(q, [43]), (z, [])]) (.err z 6) := by
    intro e ht hr k h1 h2 p
    have he : ∀ k, k ≤ 5 → wt vs e k p = toks p (pieces vs e) := fun k hk => by unfold wt; rw [wrap_no _ _ _ (by omega)]
    have h4 := at4 e ht p
    rw [he 4 (by decide)] at h4
    rw [he k (by omega)]
    have h3 := Pa.lvErr 3 _ z 6 (by decide) (by decide) h4
    have h2' := Pa.lvErr 2 _ z 6 (by decide) (by decide) h3
    have h1' := Pa.lvErr 1 _ z 6 (by decide) (by decide) h2'
    rcases (show k = 1 ∨ k = 2 ∨ k = 3 ∨ k = 4 by omega) with rfl | rfl | rfl | rfl
    · exact h1'
    · exact h2'
    · exact h3
    · exact h4
  induction e with
  | con n => exact six _ ht (by simp only [rank]; split <;> omega)
  | var k => exact six _ ht (by simp [rank])
  | arg k => exact six _ ht (by simp [rank])
  | un o a _ => exact six _ ht (by simp [rank])
  | ite a b c _ _ _ => exact six _ ht (by simp [rank])
  | bin o a b iha ihb =>
    have hup : ∀ k, 1 ≤ k → k ≤ 3 → k ≠ rank (.bin o a b) → (∀ p, Pa vs na (.lv (k + 1)) (wt vs (.bin o a b) (k + 1) p ++ [(q, [43]), (z, [])]) (.err z 6)) → ∀ p, Pa vs na (.lv k) (wt vs (.bin o a b) k p ++ [(q, [43]), (z, [])]) (.err z 6) := by
      intro k h1 h2 h3 h4 p
      have he : wt vs (.bin o a b) k p = wt vs (.bin o a b) (k + 1) p := by
        unfold wt
        rcases Nat.lt_or_ge (rank (.bin o a b)) k with h | h
        · rw [wrap_yes _ _ _ h, wrap_yes _ _ _ (by omega)]
        · rw [wrap_no _ _ _ h, wrap_no _ _ _ (by omega)]
      rw [he]
      exact Pa.lvErr k _ z 6 h1 (by omega) (h4 p)
    have hown : ∀ k, 1 ≤ k → k ≤ 3 → k = rank (.bin o a b) → ∀ p, Pa vs na (.lv k) (wt vs (.bin o a b) k p ++ [(q, [43]), (z, [])]) (.err z 6) := by
      intro k h1 h2 h3 p
      have ho : o = 6 ∨ o = 7 ∨ o = 8 ∨ o = 11 ∨ o = 12 ∨ o = 13 ∨ o = 14 ∨ o = 15 := by
        rcases bin_ops o ht.1 with (rfl | rfl) | ho
        · have : rank (.bin 9 a b) = 7 := rfl
          omega
        · have : rank (.bin 10 a b) = 7 := rfl
          omega
        · exact ho
      obtain ⟨_, _, hop, hno, hbl⟩ := sign_at o a b ho
      rw [← h3] at hop hno
      have hd := der vs na ha a ht.2.1
      have hstop : ∀ m q R, k < m → Stop m ((q, sign o) :: R) := fun m q R hk j hj _ => hno j (by omega)
      unfold wt
      rw [wrap_no _ _ _ (by omega)]
      unfold pieces
      rw [if_neg (by omega), ← h3, toks_bin _ _ _ _ hbl, List.append_assoc, List.cons_append]
      have hb := fun p => ihb ht.2.2 (k + 1) (by omega) (by omega) p
      by_cases hk3 : k = 3
      · rw [if_pos hk3]
        subst hk3
        refine Pa.lvGo 3 _ (codeOf a) _ _ (by decide) (by decide) (hd.lv 4 p _ _ (by decide) (by decide) (hstop 5 _ _ (by decide)) (lo_stop (by decide) (hstop 4 _ _ (by decide)))) ?_
        exact Pa.loErr 3 false (codeOf a) _ (sign o) o _ z 6 hop (by simp) (hb _)
      · rw [if_neg hk3]
        have hfa : flag a k = false := decide_eq_false (by omega)
        refine hd.lv k p _ _ h1 (by omega) (hstop _ _ _ (by omega)) ?_
        rw [hfa]
        exact Pa.loErr k false (codeOf a) _ (sign o) o _ z 6 hop (by simp) (hb _)
    have h4 := at4 _ ht
    have step : ∀ k, 1 ≤ k → k ≤ 3 → (∀ p, Pa vs na (.lv (k + 1)) (wt vs (.bin o a b) (k + 1) p ++ [(q, [43]), (z, [])]) (.err z 6)) → ∀ p, Pa vs na (.lv k) (wt vs (.bin o a b) k p ++ [(q, [43]), (z, [])]) (.err z 6) := by
      intro k h1 h2 h
      by_cases hk : k = rank (.bin o a b)
      · exact hown k h1 h2 hk
      · exact hup k h1 h2 hk h
    have h3 := step 3 (by decide) (by decide) h4
    have h2 := step 2 (by decide) (by decide) h3
    have h1 := step 1 (by decide) (by decide) h2
    intro k hk1 hk2 p
    rcases (show k = 1 ∨ k = 2 ∨ k = 3 ∨ k = 4 by omega) with rfl | rfl | rfl | rfl
    · exact h1 p
    · exact h2 p
    · exact h3 p
    · exact h4 p

/-- The words of a shown text, whole. -/
theorem back (vs : List Bs) (na : Int) (ha : Apart vs) (e : Ex) (ht : There vs na e) (rest : List Tk) (hs : Stop 1 rest) : Pa vs na (.lv 1) (toks 0 (pieces vs e) ++ rest) (.ok (codeOf e) rest) :=
  (der vs na ha e ht).whole 0 rest hs

theorem back_plus (vs : List Bs) (na : Int) (ha : Apart vs) (e : Ex) (ht : There vs na e) (q z : Nat) : Pa vs na (.lv 1) (toks 0 (pieces vs e) ++ [(q, [43]), (z, [])]) (.err z 6) := by
  have h := plus_err vs na ha q z e ht 1 (by decide) (by decide) 0
  unfold wt at h
  rwa [wrap_no _ _ _ (rank_pos e).1] at h

/-! ## How long a text is -/

theorem dig_length (n : Nat) (h : n ≤ 1099511627776) : (dig n).length ≤ 13 := by
  have key : ∀ d n, n < 10 ^ (d + 1) → (dig n).length ≤ d + 1 := by
    intro d
    induction d with
    | zero => intro n hn; unfold dig; rw [dif_pos (by omega)]; simp
    | succ d ih =>
      intro n hn
      unfold dig
      split
      · simp
      · rw [List.length_append]
        have := ih (n / 10) (by rw [Nat.div_lt_iff_lt_mul (by decide)]; rw [Nat.pow_succ] at hn; omega)
        simp only [List.length_cons, List.length_nil]; omega
  exact key 12 n (by omega)

theorem name_length (s : Bs) (hs : isName s = true) : s.length ≤ 24 := by
  match s, hs with
  | c :: r, hs =>
    simp only [isName, Bool.and_eq_true, decide_eq_true_eq] at hs
    have := hs.1.1.1.1.1
    simp only [List.length_cons]; omega

theorem wrap_length (r least : Nat) (p : List Bs) : (wrap r least p).flatten.length ≤ p.flatten.length + 2 := by
  unfold wrap
  split
  · simp
  · omega

theorem sign_length (o : Int) : (sign o).length ≤ 2 := by
  unfold sign; repeat' split
  all_goals decide

theorem text_length (vs : List Bs) (na : Int) (e : Ex) (ht : There vs na e) : (pieces vs e).flatten.length + 2 ≤ 36 * (codeOf e).length := by
  induction e with
  | con n =>
    have hv := (isVal_iff n).1 ht
    have := dig_length n.natAbs (by omega)
    unfold pieces codeOf
    split <;> simp <;> omega
  | var k =>
    obtain ⟨s, hs, hn⟩ := ht
    have hg : vs.getD k [] = s := by rw [List.getD_eq_getElem?_getD, hs]; rfl
    have := name_length s hn
    unfold pieces codeOf
    rw [hg]
    simp; omega
  | arg k =>
    have hd : dig k = [UInt8.ofNat (48 + k)] := by unfold dig; rw [dif_pos ht.2]
    unfold pieces codeOf
    rw [hd]
    simp
  | un o a ih =>
    have ih := ih ht.2
    have hw := wrap_length (rank a) 6 (pieces vs a)
    unfold pieces codeOf
    split
    · split
      · simp; simp at ih; omega
      · simp only [List.flatten_append, List.length_append]
        simp; simp at ih hw; omega
    · simp only [List.flatten_append, List.length_append]
      simp; simp at ih hw; omega
  | ite a b c iha ihb ihc =>
    have iha := iha ht.1
    have ihb := ihb ht.2.1
    have ihc := ihc ht.2.2
    unfold pieces codeOf
    simp [wif]; simp at iha ihb ihc; omega
  | bin o a b iha ihb =>
    have iha := iha ht.2.1
    have ihb := ihb ht.2.2
    have hs := sign_length o
    unfold pieces codeOf
    split
    · have hw : (if o = 9 then wmin else wmax).length = 3 := by split <;> rfl
      simp only [List.flatten_append, List.flatten_cons, List.flatten_nil, List.length_append, hw, List.length_cons, List.length_nil]
      omega
    · have h1 := wrap_length (rank a) (if rank (.bin o a b) = 3 then 4 else rank (.bin o a b)) (pieces vs a)
      have h2 := wrap_length (rank b) (rank (.bin o a b) + 1) (pieces vs b)
      simp only [List.flatten_append, List.flatten_cons, List.flatten_nil, List.length_append, List.length_cons, List.length_nil]
      omega
end Go.Proofs.YtfcdkjhabdpijaaDoor.I
