/-
  Layer 5: contracts of the reference: For, To, names, Reads, Writes.
-/
import Derived.Test.YtfcdkjhabdpijaaDoorRTab
import Derived.Test.YtfcdkjhabdpijaaDoorProg
import Derived.Test.YtfcdkjhabdpijaaDoorEAux
import Derived.Deep.QuietTactic
import Derived.BigQuiet
namespace Go.Proofs.YtfcdkjhabdpijaaDoor.R
open Go Go.RowKit Go.Proofs.YtfcdkjhabdpijaaDoor.B Go.Proofs.YtfcdkjhabdpijaaDoor.K Go.Proofs.YtfcdkjhabdpijaaDoor.E
set_option linter.unusedVariables false

/-- Is a rule for a state? -/
def rlFor (r : Rl) (s : Int) : Bool := r.from_.isEmpty || r.from_.contains s
def isFor (t : Tb) (n s : Int) : Bool := decide (0 ≤ n ∧ 0 ≤ s ∧ s < t.states.length) && (match t.rules[n.toNat]? with
  | some r => rlFor r s
  | none => false)

theorem RlIs.open {w : World} {cs : List Value} {r : Rl} (h : RlIs w cs r) : ∃ f g s, cs = [sv r.name, .int .i64 r.args, f, g, s] ∧ SlN w f r.from_ ∧ SlOf w 2 (GdIs w) g r.guards ∧ SlOf w 2 (SpIs w) s r.steps := h

theorem for_step_yes (l : List Int) (K F : Nat) (q : Nat) (x : Int) (h : l[K]? = some x) (hq : x = (q : Int)) : ((F : Int) == 0 || (l.take (K + 1)).contains (q : Int)) = true := by
  rw [List.take_add_one, h]
  simp [hq]
theorem for_step_no (l : List Int) (K F : Nat) (q : Nat) (x : Int) (h : l[K]? = some x) (hq : ¬ x = (q : Int)) : ((F : Int) == 0 || (l.take (K + 1)).contains (q : Int)) = ((F : Int) == 0 || (l.take K).contains (q : Int)) := by
  rw [List.take_add_one, h]
  have : ¬ (q : Int) = x := fun e => hq e.symm
  simp [this]
theorem for_end (r : Rl) (q : Nat) : ((r.from_.length : Int) == 0 || r.from_.contains (q : Int)) = rlFor r q := by
  unfold rlFor
  cases r.from_ with
  | nil => rfl
  | cons x l =>
    congr 1

theorem isFor_no (t : Tb) (n s : Int) (h : ¬ (0 ≤ n ∧ n < t.rules.length ∧ 0 ≤ s ∧ s < t.states.length)) : isFor t n s = false := by
  unfold isFor
  by_cases h1 : 0 ≤ n ∧ 0 ≤ s ∧ s < t.states.length
  · have : t.rules[n.toNat]? = none := List.getElem?_eq_none (by omega)
    rw [this]; simp
  · rw [decide_eq_false h1]; rfl

theorem isFor_at (t : Tb) (n s : Nat) (r : Rl) (h : s < t.states.length) (hr : t.rules[n]? = some r) : isFor t n s = rlFor r s := by
  unfold isFor
  rw [decide_eq_true (by omega), Int.toNat_natCast, hr]
  rfl

set_option maxHeartbeats 1000000 in
theorem refFor_any (t : Tb) (c0 c1 c2 c3 : Value) (n s : Int) (w : World) (h : TbIs w [c0, c1, c2, c3] t) (hw : TbWf t) :
    Calls Tryd.prog 14 #[.agg #[c0, c1, c2, c3], .int .i64 n, .int .i64 s] w fun e w' => e = .returned (.bool (isFor t n s)) ∧ Below w.heap.size w w' := by
  obtain ⟨d0, d1, d2, d3, e, h0, h1, h2, h3⟩ := h
  cases e
  obtain ⟨⟨-, hl0⟩, -, -, ⟨hr3, hl3⟩⟩ := hw
  have HR := Lib.hid h3
  have HRW := Lib.hid hr3
  obtain ⟨a0, cap0, rfl, -⟩ := h0
  obtain ⟨a3, cap3, rfl, -⟩ := h3
  rw [List.length_map]
  obtain ⟨S, hS⟩ : ∃ S, t.states.length = S := ⟨_, rfl⟩
  obtain ⟨N, hN⟩ : ∃ N, t.rules.length = N := ⟨_, rfl⟩
  rw [hS] at hl0 ⊢
  rw [hN] at hl3 HR ⊢
  have HB := Lib.hid ((Below.refl w.heap.size w).alloc (Nat.le_refl _) (.cells #[.slice a0 S cap0, c1, c2, .slice a3 N cap3] 26))
  by_cases hin : 0 ≤ n ∧ n < N ∧ 0 ≤ s ∧ s < S
  case neg =>
    rw [isFor_no t n s (by rw [hS, hN]; exact hin)]
    by_cases x0 : 0 ≤ n
    · by_cases x1 : n < N
      · by_cases x2 : 0 ≤ s
        · have x3 : ¬ s < S := by omega
          go_enter Tryd.func14, Tryd.ntmps14
          go_wp2_with fail
          go_ret
          exact ⟨rfl, HB.out⟩
        · go_enter Tryd.func14, Tryd.ntmps14
          go_wp2_with fail
          go_ret
          exact ⟨rfl, HB.out⟩
      · go_enter Tryd.func14, Tryd.ntmps14
        go_wp2_with fail
        go_ret
        exact ⟨rfl, HB.out⟩
    · go_enter Tryd.func14, Tryd.ntmps14
      go_wp2_with fail
      go_ret
      exact ⟨rfl, HB.out⟩
  obtain ⟨x0, x1, x2, x3⟩ := hin
  obtain ⟨m, rfl⟩ : ∃ m : Nat, n = m := ⟨n.toNat, by omega⟩
  obtain ⟨q, rfl⟩ : ∃ q : Nat, s = q := ⟨s.toNat, by omega⟩
  obtain ⟨r, hr⟩ : ∃ r, t.rules[m]? = some r := ⟨_, List.getElem?_eq_getElem (by omega)⟩
  rw [isFor_at t m q r (by omega) hr]
  obtain ⟨b, off, ea, cs, -, ⟨f, g, st, rfl, hf, -, -⟩, hc⟩ := HR.out.at hr
  subst ea
  have k2 := (kept_cell HB.out (hc 2 _ rfl))
  have HF := Lib.hid (Sl.below hf HB.out)
  have hfl : r.from_.length ≤ 9223372036854775807 := (HRW.out r (List.mem_of_getElem? hr)).2.2.1.2
  obtain ⟨af, capf, rfl, -⟩ := hf
  rw [List.length_map] at HF k2
  obtain ⟨F, hF⟩ : ∃ F, r.from_.length = F := ⟨_, rfl⟩
  rw [hF] at HF k2 hfl
  have HFF := Lib.hid hF
  have HW := Lib.hid hfl
  clear hc hS hN hF hfl hl0 hl3 h1 h2 hr3 hr
  go_enter Tryd.func14, Tryd.ntmps14
  go_wp2_with fail
  go_loopw [7, 8] (fun i1 i2 wr => ∃ (K : Nat) (B : Bool), i1 = .bool B ∧ i2 = .int .i64 (K : Int) ∧ K ≤ F ∧ wr = (w.alloc (.cells #[.slice a0 S cap0, c1, c2, .slice (some ⟨b, off, none⟩) N cap3] 26)) ∧ Hid (B = ((F : Int) == 0 || (r.from_.take K).contains (q : Int)))) (fun _ k _ => F - (intOf k).toNat)
  case atStart => exact ⟨0, _, rfl, rfl, Nat.zero_le _, rfl, Lib.hid (by simp)⟩
  case round =>
    obtain ⟨K, B, rfl, rfl, hK, rfl, HI⟩ := hrel
    by_cases hlt : K < F
    · have hltI : (K : Int) < (F : Int) := by omega
      obtain ⟨x, hx⟩ : ∃ x, r.from_[K]? = some x := ⟨_, List.getElem?_eq_getElem (by rw [HFF.out]; exact hlt)⟩
      have hm : (r.from_.map fun n => Value.int .i64 n)[K]? = some (.int .i64 x) := by rw [List.getElem?_map, hx]; rfl
      obtain ⟨b', off', ea, h1⟩ := HF.out.at hm
      subst ea
      have hwK : IntKind.i64.wrap ((K : Int) + 1) = (K : Int) + 1 := IntWalk.i64_in _ (by have := HW.out; omega)
      have HX := Lib.hid hx
      clear hm hx
      have hmN : m < N := by omega
      by_cases hq : x = (q : Int)
      · have hqb : (x == (q : Int)) = true := beq_iff_eq.2 hq
        cases B <;> go_wp2_with fail
        all_goals
          refine ⟨⟨K + 1, true, rfl, by go_num, by omega, trivial, Lib.hid ?_⟩, by simp [intOf]; omega⟩
          exact (for_step_yes r.from_ K F q x HX.out hq).symm
      · have hqb : (x == (q : Int)) = false := beq_eq_false_iff_ne.2 hq
        cases B <;> go_wp2_with fail
        · refine ⟨⟨K + 1, false, rfl, by go_num, by omega, trivial, Lib.hid ?_⟩, by simp [intOf]; omega⟩
          rw [for_step_no r.from_ K F q x HX.out hq]; exact HI.out
        · refine ⟨⟨K + 1, true, rfl, by go_num, by omega, trivial, Lib.hid ?_⟩, by simp [intOf]; omega⟩
          rw [for_step_no r.from_ K F q x HX.out hq]; exact HI.out
    · have hltI : ¬ (K : Int) < (F : Int) := by omega
      go_wp2_with fail
      go_ret
      refine ⟨ret_bool ?_, HB.out⟩
      have e : K = F := by omega
      rw [HI.out, e, ← HFF.out, List.take_length]
      exact for_end r q

/-- Where a rule leads. -/
def toAt (l : List Sp) (s : Int) : Nat → Int
  | 0 => s
  | K + 1 => match l[K]? with
    | some p => if 0 ≤ p.to then p.to else toAt l s K
    | none => toAt l s K
def toOf (r : Rl) (s : Int) : Int := toAt r.steps s r.steps.length

/-- Does an expression name a variable? -/
def nm (v : Int) (i : In) : Bool := i.1 == 2 && i.2 == v
def names (c : List In) (v : Int) : Bool := c.any (nm v)

theorem ret_i64 {a b : Int} (h : a = b) : Ending.returned (.int .i64 a) = .returned (.int .i64 b) := by rw [h]

set_option maxHeartbeats 1000000 in
theorem refTo_any (r : Rl) (c0 c1 c2 c3 c4 : Value) (s : Int) (w : World) (h : RlIs w [c0, c1, c2, c3, c4] r) (hw : RlWf r) :
    Calls Tryd.prog 26 #[.agg #[c0, c1, c2, c3, c4], .int .i64 s] w fun e w' => e = .returned (.int .i64 (toOf r s)) ∧ Below w.heap.size w w' := by
  obtain ⟨f, g, st, e, hf, hg, hs⟩ := h
  obtain ⟨rfl, rfl, rfl, rfl, rfl⟩ : c0 = sv r.name ∧ c1 = .int .i64 r.args ∧ c2 = f ∧ c3 = g ∧ c4 = st := by simpa using e
  clear e
  have hl : r.steps.length ≤ 9223372036854775807 := hw.2.2.2.2.2
  clear hw
  have HS := Lib.hid hs
  obtain ⟨a, cap, rfl, -⟩ := hs
  obtain ⟨N, hN⟩ : ∃ N, r.steps.length = N := ⟨_, rfl⟩
  have HT := Lib.hid (show toAt r.steps s N = toOf r s by unfold toOf; rw [hN])
  rw [hN] at hl HS ⊢
  have HB := Lib.hid ((Below.refl w.heap.size w).alloc (Nat.le_refl _) (.cells #[sv r.name, .int .i64 r.args, c2, c3, .slice a N cap] 38))
  have HL := Lib.hid hl
  have HN := Lib.hid hN
  have hwN : IntKind.i64.wrap ((N : Int) - 1) = (N : Int) - 1 := IntWalk.i64_in _ (by omega)
  clear hN hl hf hg
  unfold sv at HB ⊢
  go_enter Tryd.func26, Tryd.ntmps26
  go_wp2_with fail
  go_loopw [5] (fun i wr => ∃ K : Nat, i = .int .i64 ((K : Int) - 1) ∧ K ≤ N ∧ wr = (w.alloc (.cells #[.string (str r.name), .int .i64 r.args, c2, c3, .slice a N cap] 38)) ∧ Hid (toAt r.steps s K = toOf r s)) (fun k _ => (intOf k + 1).toNat)
  case atStart => exact ⟨N, rfl, Nat.le_refl _, rfl, HT⟩
  case round =>
    obtain ⟨K, rfl, hK, rfl, HI⟩ := hrel
    cases K with
    | zero =>
      go_wp2_with fail
      go_ret
      exact ⟨ret_i64 HI.out, HB.out⟩
    | succ K =>
      obtain ⟨x, hx⟩ : ∃ x, r.steps[K]? = some x := ⟨_, List.getElem?_eq_getElem (by rw [HN.out]; omega)⟩
      have HX := Lib.hid hx
      obtain ⟨b', off', ea, cs, -, ⟨t, rfl, -⟩, hc⟩ := HS.out.at hx
      subst ea
      have k1 := kept_cell HB.out (hc 1 _ rfl)
      have hi : (((K + 1 : Nat) : Int) - 1) = (K : Int) := by omega
      have hwK : IntKind.i64.wrap ((K : Int) - 1) = (K : Int) - 1 := IntWalk.i64_in _ (by have := HL.out; omega)
      have hKN : K < N := by omega
      rw [hi]
      by_cases h0 : 0 ≤ x.to
      · clear hc hx
        go_wp2_with fail
        go_ret
        refine ⟨ret_i64 ?_, HB.out⟩
        rw [← HI.out]
        unfold toAt
        rw [HX.out]
        simp only
        rw [if_pos h0]
      · clear hc hx
        go_wp2_with fail
        refine ⟨⟨K, rfl, by omega, trivial, Lib.hid ?_⟩, by simp [intOf]⟩
        rw [← HI.out]
        conv => rhs; unfold toAt
        rw [HX.out]
        simp only
        rw [if_neg h0]

set_option maxHeartbeats 1000000 in
theorem refNames_any (c : List In) (v : Value) (x : Int) (w : World) (h : SlI w v c) (hl : c.length ≤ 9223372036854775807) :
    Calls Tryd.prog 44 #[v, .int .i64 x] w fun e w' => e = .returned (.bool (names c x)) ∧ w = w' := by
  have HS := Lib.hid h
  obtain ⟨a, cap, rfl, -⟩ := h
  obtain ⟨N, hN⟩ : ∃ N, c.length = N := ⟨_, rfl⟩
  rw [hN] at hl HS ⊢
  have HL := Lib.hid hl
  have HN := Lib.hid hN
  clear hN hl
  go_enter Tryd.func44, Tryd.ntmps44
  go_wp2_with fail
  go_loopw [5] (fun k wr => ∃ K : Nat, k = .int .i64 (K : Int) ∧ K ≤ N ∧ wr = w ∧ Hid (names (c.drop K) x = names c x)) (fun k _ => N - (intOf k).toNat)
  case atStart => exact ⟨0, rfl, Nat.zero_le _, rfl, Lib.hid rfl⟩
  case round =>
    obtain ⟨K, rfl, hK, rfl, HI⟩ := hrel
    by_cases hlt : K < N
    · have hltI : (K : Int) < (N : Int) := by omega
      obtain ⟨i, hi⟩ : ∃ i, c[K]? = some i := ⟨_, List.getElem?_eq_getElem (by rw [HN.out]; exact hlt)⟩
      have hd : names (c.drop K) x = (nm x i || names (c.drop (K + 1)) x) := by
        obtain ⟨hk, e⟩ := List.getElem?_eq_some_iff.1 hi
        rw [List.drop_eq_getElem_cons hk, e]; rfl
      rw [hd] at HI
      obtain ⟨b', off', ea, k0, k1⟩ := HS.out.at hi
      subst ea
      have hwK : IntKind.i64.wrap ((K : Int) + 1) = (K : Int) + 1 := IntWalk.i64_in _ (by have := HL.out; omega)
      clear hd hi
      by_cases h2 : i.1 = 2
      · have h2b : (i.1 == 2) = true := beq_iff_eq.2 h2
        by_cases h3 : i.2 = x
        · have h3b : (i.2 == x) = true := beq_iff_eq.2 h3
          have hn : nm x i = true := by unfold nm; rw [h2b, h3b]; rfl
          rw [hn] at HI
          have HI' := Lib.hid HI.out.symm
          clear HI hn h2 h3
          go_wp2_with fail
          go_ret
          exact ⟨ret_bool (by rw [HI'.out]; rfl), rfl⟩
        · have h3b : (i.2 == x) = false := beq_eq_false_iff_ne.2 h3
          have hn : nm x i = false := by unfold nm; rw [h2b, h3b]; rfl
          rw [hn] at HI
          clear hn h2 h3
          go_wp2_with fail
          exact ⟨⟨K + 1, by go_num, by omega, trivial, HI⟩, by simp [intOf]; omega⟩
      · have h2b : (i.1 == 2) = false := beq_eq_false_iff_ne.2 h2
        have hn : nm x i = false := by unfold nm; rw [h2b, Bool.false_and]
        rw [hn] at HI
        clear hn h2
        go_wp2_with fail
        exact ⟨⟨K + 1, by go_num, by omega, trivial, HI⟩, by simp [intOf]; omega⟩
    · have hltI : ¬ (K : Int) < (N : Int) := by omega
      have e : K = N := by omega
      go_wp2_with fail
      go_ret
      refine ⟨ret_bool ?_, rfl⟩
      rw [← HI.out, e, ← HN.out, List.drop_length]; rfl
end Go.Proofs.YtfcdkjhabdpijaaDoor.R
