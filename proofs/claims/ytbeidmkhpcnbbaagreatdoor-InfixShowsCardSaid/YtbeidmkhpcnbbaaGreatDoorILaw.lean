/-
  Layer 4's statements: few, awake.
-/
import Derived.Test.YtbeidmkhpcnbbaaGreatDoorICon
import Derived.Test.YtbeidmkhpcnbbaaGreatDoorIBack
namespace Go.Proofs.YtbeidmkhpcnbbaaGreatDoor.I
open Go Go.RowKit Go.Proofs.YtbeidmkhpcnbbaaGreatDoor.B Go.Proofs.YtbeidmkhpcnbbaaGreatDoor.K Go.Proofs.YtbeidmkhpcnbbaaGreatDoor.E
set_option linter.unusedVariables false

/-- a, b. -/
def ab : List Bs := [[97], [98]]
/-- a - b * 2. -/
def eSub : Ex := .bin 7 (.var 0) (.bin 8 (.var 1) (.con 2))
def tSub : Bs := [97, 32, 45, 32, 98, 32, 42, 32, 50]
/-- a < b. -/
def eLess : Ex := .bin 11 (.var 0) (.var 1)
def tLess : Bs := [97, 32, 60, 32, 98, 32, 60, 32, 97]

theorem ab_apart : Apart ab := by
  intro i j s hi hj
  match i, j with
  | 0, 0 => rfl
  | 1, 1 => rfl
  | 0, 1 => simp [ab] at hi hj; subst hi; simp at hj
  | 1, 0 => simp [ab] at hi hj; subst hi; simp at hj
  | i + 2, _ => simp [ab] at hi
  | 0, j + 2 => simp [ab] at hj
  | 1, j + 2 => simp [ab] at hj

theorem ab_names : ∀ s ∈ ab, isName s = true := by
  intro s hs
  simp only [ab, List.mem_cons, List.not_mem_nil, or_false] at hs
  rcases hs with rfl | rfl <;> decide +kernel

theorem sub_wf : WF ab.length 0 eSub := ⟨by decide +kernel, show (0 : Int) < 2 by decide, by decide +kernel, show (1 : Int) < 2 by decide, show isVal 2 = true by decide +kernel⟩
theorem less_wf : WF ab.length 0 eLess := ⟨by decide +kernel, show (0 : Int) < 2 by decide, show (1 : Int) < 2 by decide⟩
theorem dig_two : dig 2 = [50] := by unfold dig; rw [dif_pos (by decide)]; rfl
theorem sub_text : text ab eSub = tSub := by
  unfold text eSub
  have h : pieces ab (.con 2) = [[50]] := by unfold pieces; rw [if_neg (by decide), show (2 : Int).natAbs = 2 from rfl, dig_two]
  unfold pieces
  rw [if_neg (by decide)]
  unfold pieces
  rw [if_neg (by decide), h]
  decide +kernel
theorem less_text : text ab eLess = [97, 32, 60, 32, 98] := by
  unfold text eLess
  decide +kernel
theorem sub_code : codeOf eSub = [(2, 0), (2, 1), (1, 2), (8, 0), (7, 0)] := by decide +kernel

theorem sub_there : There ab 0 eSub := there_of ab 0 (by decide) ab_names eSub sub_wf
theorem less_there : There ab 0 eLess := there_of ab 0 (by decide) ab_names eLess less_wf

theorem sub_lx : Lx 0 tSub (toks 0 (pieces ab eSub) ++ [(9, [])]) := by
  have h := text_words ab eSub (nm_of ab 0 (by decide) ab_names eSub sub_wf) 0 [] (Or.inl rfl) [(9, [])] (by rw [sub_text]; exact Lx.nil 9)
  rw [sub_text] at h
  exact h
theorem sub_pa : Pa ab 0 (.lv 1) (toks 0 (pieces ab eSub) ++ [(9, [])]) (.ok (codeOf eSub) [(9, [])]) := by
  refine back ab 0 ab_apart eSub sub_there _ (fun j _ _ => ?_)
  exact opAt_none j [] (by decide)

theorem less_lx : Lx 0 tLess (toks 0 (pieces ab eLess) ++ [(6, [60]), (8, [97]), (9, [])]) := by
  have hw : Lx 5 [32, 60, 32, 97] [(6, [60]), (8, [97]), (9, [])] := by
    refine Lx.blank 5 [60, 32, 97] _ ?_
    refine Lx.word 6 [60] [32, 97] _ (by decide) (by decide) (by decide +kernel) ?_
    refine Lx.blank 7 [97] _ ?_
    exact Lx.word 8 [97] [] _ (by decide) (by decide) (by decide +kernel) (Lx.nil 9)
  have h := text_words ab eLess (nm_of ab 0 (by decide) ab_names eLess less_wf) 0 [32, 60, 32, 97] (Or.inr ⟨32, _, rfl, Or.inl rfl⟩) _ (by rw [less_text]; exact hw)
  rw [less_text] at h
  exact h
theorem less_pa : Pa ab 0 (.lv 1) (toks 0 (pieces ab eLess) ++ [(6, [60]), (8, [97]), (9, [])]) (.ok (codeOf eLess) [(6, [60]), (8, [97]), (9, [])]) := by
  have h3 := (der ab 0 ab_apart eLess less_there).lv 3 0 [(6, [60]), (8, [97]), (9, [])] (.ok (codeOf eLess) [(6, [60]), (8, [97]), (9, [])]) (by decide) (by decide)
    (fun j h1 h2 => by
      show opAt j [60] = none
      unfold opAt
      rw [if_neg (by omega), if_neg (by omega), if_neg (by omega)]
      repeat' split
      all_goals first | rfl | contradiction)
    (Pa.loStop 3 _ _ _ (Or.inr ⟨rfl, by decide +kernel⟩))
  unfold wt at h3
  rw [wrap_no _ _ _ (by decide +kernel)] at h3
  refine Pa.lvGo 1 _ _ _ _ (by decide) (by decide) (Pa.lvGo 2 _ _ _ _ (by decide) (by decide) h3 (Pa.loStop 2 _ _ _ (Or.inl ?_))) (Pa.loStop 1 _ _ _ (Or.inl ?_)) <;> rfl

theorem sub_show : showOf ab 0 [(2, 0), (2, 1), (1, 2), (8, 0), (7, 0)] = (tSub, 0) := by
  have h0 : (check [(2, 0), (2, 1), (1, 2), (8, 0), (7, 0)] ab.length 0).2 = 0 := by decide +kernel
  rw [showOf_good _ _ _ h0]
  have h1 := push_code ab.length 0 eSub sub_wf []
  rw [sub_code] at h1
  have he : exOf [(2, 0), (2, 1), (1, 2), (8, 0), (7, 0)] = eSub := by unfold exOf; rw [h1]
  rw [he, sub_text]

theorem ab_at (w : World) (T : TypeId) : Names (w.alloc (.cells #[.string ⟨#[97]⟩, .string ⟨#[98]⟩] T)) (.slice (some ⟨w.heap.size, 0, none⟩) 2 2) ab :=
  Sl.row (cap := 2) (xs := [sv [97], sv [98]]) (heap_alloc_at w _) rfl

theorem few_names {a : Option Addr} {n cap cap' : Nat} {vs : List Bs} {w : World} (hn : Names w (.slice a n cap) vs) (hlen : vs.length = n) (h : 20 < n) : Names w (.slice a 20 cap') (vs.take 20) := by
  obtain ⟨a', cap'', e, hc⟩ := hn
  cases e
  refine ⟨a, cap', ?_, ?_⟩
  · rw [List.length_map, List.length_take, Nat.min_eq_left (by omega)]
  · intro j u hj
    refine hc j u ?_
    rw [List.map_take, List.getElem?_take] at hj
    split at hj
    · exact hj
    · cases hj

/-- Not more than 20. -/
theorem few_any (a : Option Addr) (n cap : Nat) (vs : List Bs) (w : World) (hn : Names w (.slice a n cap) vs) (hl : vs.length ≤ 9223372036854775807) (hc : n ≤ cap) (hcap : cap ≤ 9223372036854775807) :
    Calls Tryz.prog 4 #[.slice a n cap] w fun e w' => (∃ v', e = .returned v' ∧ Names w v' (vs.take 20)) ∧ w = w' := by
  have HN := Lib.hid hn
  have hlen : vs.length = n := by
    obtain ⟨a', cap', e, -⟩ := hn
    cases e
    rw [List.length_map]
  by_cases h : 20 < n
  · have hI : 20 < (n : Int) := by omega
    have h1 : 20 ≤ cap := by omega
    have h2 : ¬ cap = 0 := by omega
    have h3 : (20 : Int) ≤ (cap : Int) := by omega
    go_enter Tryz.func4, Tryz.ntmps4
    go_wp2_with fail
    go_ret
    refine ⟨⟨_, rfl, ?_⟩, rfl⟩
    exact few_names HN.out hlen h
  · have hI : decide (20 < (n : Int)) = false := decide_eq_false (by omega)
    go_enter Tryz.func4, Tryz.ntmps4
    go_wp2_with fail
    go_ret
    refine ⟨⟨_, rfl, ?_⟩, rfl⟩
    rw [List.take_of_length_le (by omega)]
    exact HN.out

theorem a1_name : isName [97, 49, 95] = true := by decide +kernel
theorem if_name : isName [105, 102] = false := by decide +kernel
theorem five_wf : ∀ i ∈ ([(2, 0), (2, 1), (1, 2), (8, 0), (7, 0)] : List In), (-9223372036854775808 ≤ i.1 ∧ i.1 ≤ 9223372036854775807) ∧ -9223372036854775808 ≤ i.2 ∧ i.2 ≤ 9223372036854775807 := by
  intro i hi
  simp only [List.mem_cons, List.not_mem_nil, or_false] at hi
  rcases hi with rfl | rfl | rfl | rfl | rfl <;> exact ⟨⟨by decide, by decide⟩, by decide, by decide⟩

set_option maxHeartbeats 1000000 in
set_option maxRecDepth 100000 in
theorem awake_any (C : Contracts) (w : World) (hg : Glob w) : Calls Tryz.prog 5 #[] w fun e w' => e = .returned (.bool true) ∧ Below w.heap.size w w' := by
  have G0 := Lib.hid hg
  clear hg
  have hp := fun W (hb : Below w.heap.size w W) => C.parseOk_ tSub ab 0 _ _ 9 (.slice (some ⟨W.heap.size, 0, none⟩) 2 2) (W.alloc (.cells #[.string ⟨#[97]⟩, .string ⟨#[98]⟩] 9)) (G0.out.below (hb.alloc hb.size _)) sub_lx (by decide) (ab_at W _) (by decide) ab_names (by decide) (by decide) sub_pa (by decide +kernel)
  rw [sub_code] at hp
  have HP := Lib.hid hp
  have HM := Lib.hid fun W (hb : Below w.heap.size w W) => C.parseMore_ tLess ab 0 _ _ 6 [60] _ (.slice (some ⟨W.heap.size, 0, none⟩) 2 2) (W.alloc (.cells #[.string ⟨#[97]⟩, .string ⟨#[98]⟩] 9)) (G0.out.below (hb.alloc hb.size _)) less_lx (by decide) (ab_at W _) (by decide) ab_names (by decide) (by decide) less_pa (by decide)
  have e1 : (str tSub).toList = [97, 32, 45, 32, 98, 32, 42, 32, 50] := str_toList tSub
  clear hp
  go_enter Tryz.func5, Tryz.ntmps5
  go_wp2_with fail
  refine (HP.out w (Below.refl _ _)).mono ?_
  rintro _ w1 ⟨⟨v1, rfl, s1⟩, b1⟩
  have B0 := (Below.refl w.heap.size w).alloc (Nat.le_refl _) (.cells #[.string ⟨#[97]⟩, .string ⟨#[98]⟩] 9)
  have B1 := Lib.hid (B0.trans (b1.mono B0.size))
  clear b1 B0
  have hs := C.show_ _ ab 0 v1 (.slice (some ⟨w1.heap.size, 0, none⟩) 2 2) (w1.alloc (.cells #[.string ⟨#[97]⟩, .string ⟨#[98]⟩] 9)) (G0.out.below (B1.out.alloc B1.out.size _)) (s1.below ((Below.refl _ _).alloc (Nat.le_refl _) _)) (ab_at w1 _) five_wf (by decide) (by decide) ⟨by decide, by decide⟩
    (by intro s hs; simp only [ab, List.mem_cons, List.not_mem_nil, or_false] at hs; rcases hs with rfl | rfl <;> decide)
  rw [sub_show] at hs
  unfold sv at hs
  have HS := Lib.hid hs
  clear hs
  obtain ⟨a1, c1, rfl, -⟩ := s1
  go_wp2_with fail
  refine HS.out.mono ?_
  rintro _ w2 ⟨rfl, b2⟩
  have B1' := B1.out.alloc B1.out.size (.cells #[.string ⟨#[97]⟩, .string ⟨#[98]⟩] 9)
  have B2 := Lib.hid (B1'.trans (b2.mono B1'.size))
  clear b2 HS B1 B1'
  go_wp2_with fail
  refine (HM.out w2 B2.out).mono ?_
  rintro _ w3 ⟨⟨v3, rfl⟩, b3⟩
  have B2' := B2.out.alloc B2.out.size (.cells #[.string ⟨#[97]⟩, .string ⟨#[98]⟩] 9)
  have B3 := Lib.hid (B2'.trans (b3.mono B2'.size))
  clear b3 B2 B2'
  have hn1 := C.name_ [97, 49, 95] w3 (G0.out.below B3.out) (by decide)
  rw [a1_name] at hn1
  have HN1 := Lib.hid hn1
  clear hn1
  go_wp2_with fail
  refine HN1.out.mono ?_
  rintro _ w4 ⟨rfl, b4⟩
  have B4 := Lib.hid (B3.out.trans (b4.mono B3.out.size))
  clear b4 B3 HN1
  have hn2 := C.name_ [105, 102] w4 (G0.out.below B4.out) (by decide)
  rw [if_name] at hn2
  have HN2 := Lib.hid hn2
  clear hn2
  go_wp2_with fail
  refine HN2.out.mono ?_
  rintro _ w5 ⟨rfl, b5⟩
  have B5 := Lib.hid (B4.out.trans (b5.mono B4.out.size))
  clear b5 B4 HN2
  go_wp2_with fail
  go_ret
  exact ⟨rfl, B5.out⟩
end Go.Proofs.YtbeidmkhpcnbbaaGreatDoor.I
