/-
  Plain mathematics of layer 4: what was shown, as words, and derived back.
  Layer 4's statements: named.
-/
import Derived.Test.YtbeidmkhpcnbbaaDoorIShow
import Derived.Test.YtbeidmkhpcnbbaaDoorIBack
import Derived.Test.YtbeidmkhpcnbbaaDoorILaw
import Derived.Test.YtbeidmkhpcnbbaaDoorIRefA
import Derived.Deep.DeepCutAuto
import Derived.Deep.QuietTactic
import Derived.BigQuiet
namespace Go.Proofs.YtbeidmkhpcnbbaaDoor.I
open Go Go.Proofs.YtbeidmkhpcnbbaaDoor.E
set_option linter.unusedVariables false

/-- What was shown, as words, and derived back. -/
theorem shown (vs : List Bs) (na : Int) (code : List In) (h : (showOf vs na code).2 = 0) (hna : na ≤ 10) (ha : Apart vs) (hv : ∀ s ∈ vs, isName s = true) :
    0 ≤ na ∧ code.length ≤ 31 ∧ (showOf vs na code).1 = text vs (exOf code) ∧ (text vs (exOf code)).length ≤ 2048 ∧ There vs na (exOf code) ∧ Nm vs (exOf code) ∧ codeOf (exOf code) = code := by
  have hc : (check code vs.length na).2 = 0 := by
    by_cases hc : (check code vs.length na).2 = 0
    · exact hc
    · rw [showOf_bad _ _ _ hc] at h
      exact h
  obtain ⟨hw, he⟩ := exOf_is code vs.length na hc
  have ht := there_of vs na hna hv _ hw
  have hm := nm_of vs na hna hv _ hw
  have hk := check_ok code vs.length na hc
  have hl := text_length vs na (exOf code) ht
  rw [he] at hl
  have hlt : (text vs (exOf code)).length = (pieces vs (exOf code)).flatten.length := rfl
  have h31 : code.length ≤ 31 ∧ 0 ≤ na := by
    exact ⟨hk.2.2.1, hk.2.1⟩
  exact ⟨h31.2, h31.1, by rw [showOf_good _ _ _ hc], by omega, ht, hm, he⟩

/-- The eight words. -/
def endW (m : Nat) : Bs := match m with | 0 => [41] | 1 => [44] | 2 => [40] | 3 => [49] | 4 => [36, 49] | 5 => [33] | 6 => [97] | _ => [109, 105, 110]

theorem endW_ok (m : Nat) : endW m ≠ [] ∧ (endW m).head? ≠ some 32 ∧ wordLen (endW m) = (endW m).length ∧ (endW m).length ≤ 3 ∧
    (endW m ≠ [124] ∧ endW m ≠ [38] ∧ endW m ≠ [60] ∧ endW m ≠ [60, 61] ∧ endW m ≠ [61] ∧ endW m ≠ [43] ∧ endW m ≠ [45] ∧ endW m ≠ [42]) := by
  unfold endW
  split <;> decide +kernel

/-- One word more. -/
theorem more_lx (vs : List Bs) (e : Ex) (hn : Nm vs e) (m : Nat) : Lx 0 (text vs e ++ 32 :: endW m) (toks 0 (pieces vs e) ++ [((text vs e).length + 1, endW m), ((text vs e).length + 1 + (endW m).length, [])]) := by
  obtain ⟨h1, h2, h3, _, _⟩ := endW_ok m
  refine text_words vs e hn 0 _ (Or.inr ⟨32, _, rfl, Or.inl rfl⟩) _ ?_
  rw [Nat.zero_add]
  refine Lx.blank _ _ _ ?_
  have := Lx.word ((text vs e).length + 1) (endW m) [] _ h1 h2 (by rw [List.append_nil]; exact h3) (Lx.nil _)
  rwa [List.append_nil] at this

theorem more_pa (vs : List Bs) (na : Int) (ha : Apart vs) (e : Ex) (ht : There vs na e) (m q z : Nat) : Pa vs na (.lv 1) (toks 0 (pieces vs e) ++ [(q, endW m), (z, [])]) (.ok (codeOf e) [(q, endW m), (z, [])]) := by
  obtain ⟨_, _, _, _, h⟩ := endW_ok m
  exact back vs na ha e ht _ (stop_of 1 q _ _ h)

theorem plus_lx (vs : List Bs) (e : Ex) (hn : Nm vs e) : Lx 0 (text vs e ++ [32, 43]) (toks 0 (pieces vs e) ++ [((text vs e).length + 1, [43]), ((text vs e).length + 2, [])]) := by
  refine text_words vs e hn 0 _ (Or.inr ⟨32, _, rfl, Or.inl rfl⟩) _ ?_
  rw [Nat.zero_add]
  refine Lx.blank _ _ _ ?_
  exact Lx.word ((text vs e).length + 1) [43] [] _ (by decide) (by decide) (by decide +kernel) (Lx.nil _)
end Go.Proofs.YtbeidmkhpcnbbaaDoor.I

namespace Go.Proofs.YtbeidmkhpcnbbaaDoor.I
open Go Go.RowKit Go.Proofs.YtbeidmkhpcnbbaaDoor.B Go.Proofs.YtbeidmkhpcnbbaaDoor.K Go.Proofs.YtbeidmkhpcnbbaaDoor.E
set_option linter.unusedVariables false

/-- What it tells, if true. -/
def NamedIs (vs : List Bs) (e : Ending) : Prop := ∃ r : Bool, e = .returned (.bool r) ∧ (r = true → Apart vs ∧ ∀ s ∈ vs, isName s = true)

theorem named_no (vs : List Bs) : NamedIs vs (.returned (.bool false)) := ⟨false, rfl, fun h => by cases h⟩
theorem named_yes (vs : List Bs) (h : ∀ (j : Nat) (s : Bs), vs[j]? = some s → isName s = true ∧ ∀ i, i < j → vs[i]? ≠ some s) : NamedIs vs (.returned (.bool true)) := by
  refine ⟨true, rfl, fun _ => ⟨fun i j s hi hj => ?_, fun s hs => ?_⟩⟩
  · rcases Nat.lt_trichotomy i j with h1 | h1 | h1
    · exact absurd hi ((h j s hj).2 i h1)
    · exact h1
    · exact absurd hj ((h i s hi).2 j h1)
  · obtain ⟨j, hj, rfl⟩ := List.mem_iff_getElem.1 hs
    exact (h j _ (List.getElem?_eq_getElem hj)).1

set_option maxHeartbeats 1000000 in
theorem named_any (v : Value) (vs : List Bs) (w : World) (hn : Names w v vs) (hl : vs.length ≤ 20) (hx : ∀ s ∈ vs, s.length ≤ 9223372036854775807) :
    Calls Tryd.prog 11 #[v] w fun e w' => NamedIs vs e ∧ Below w.heap.size w w' := by
  have HN := Lib.hid hn
  have HX := Lib.hid hx
  obtain ⟨a, cap, rfl, -⟩ := hn
  rw [List.length_map] at HN ⊢
  obtain ⟨n, hnn⟩ : ∃ n, vs.length = n := ⟨_, rfl⟩
  rw [hnn] at HN hl ⊢
  have HNN := Lib.hid hnn
  have HV := Lib.hid hl
  clear hnn hl hx
  go_enter Tryd.func11, Tryd.ntmps11
  go_wp2_with fail
  go_loopw [3] (fun k wr => ∃ (K : Nat), k = .int .i64 (K : Int) ∧ K ≤ n ∧ Hid (Below w.heap.size w wr) ∧ Hid (∀ j s, j < K → vs[j]? = some s → isName s = true ∧ ∀ i, i < j → vs[i]? ≠ some s)) (fun k _ => n - (intOf k).toNat)
  case atStart => exact ⟨0, rfl, Nat.zero_le _, Lib.hid (Below.refl _ _), Lib.hid (fun j s h => absurd h (Nat.not_lt_zero _))⟩
  case round =>
    obtain ⟨K, rfl, hK, HBE, HB⟩ := hrel
    by_cases hlt : K < n
    · obtain ⟨x, hx⟩ : ∃ x, vs[K]? = some x := ⟨_, List.getElem?_eq_getElem (by rw [HNN.out]; exact hlt)⟩
      have hm : (vs.map sv)[K]? = some (sv x) := by rw [List.getElem?_map, hx]; rfl
      have hwK : IntKind.i64.wrap ((K : Int) + 1) = (K : Int) + 1 := IntWalk.i64_in _ (by have := HV.out; omega)
      have hltI : (K : Int) < (n : Int) := by omega
      have HXX := Lib.hid hx
      have HM := Lib.hid hm
      clear hm hx
      go_wp2_with fail
      go_loopw [4] (fun k wq => ∃ (M : Nat), k = .int .i64 (M : Int) ∧ M ≤ K ∧ Hid (Below w.heap.size w wq) ∧ Hid (∀ i, i < M → vs[i]? ≠ some x)) (fun k _ => K - (intOf k).toNat)
      case atStart => exact ⟨0, rfl, Nat.zero_le _, HBE, Lib.hid (fun i h => absurd h (Nat.not_lt_zero _))⟩
      case round =>
        obtain ⟨M, rfl, hM, HBE2, HB2⟩ := hrel
        by_cases hlt2 : M < K
        · obtain ⟨y, hy⟩ : ∃ y, vs[M]? = some y := ⟨_, List.getElem?_eq_getElem (by rw [HNN.out]; omega)⟩
          have hm2 : (vs.map sv)[M]? = some (sv y) := by rw [List.getElem?_map, hy]; rfl
          obtain ⟨b, off, ea, h1⟩ := (HN.out.below HBE2.out).at HM.out
          obtain ⟨b', off', ea', h1'⟩ := (HN.out.below HBE2.out).at hm2
          subst ea
          cases ea'
          have hwM : IntKind.i64.wrap ((M : Int) + 1) = (M : Int) + 1 := IntWalk.i64_in _ (by have := HV.out; omega)
          have hltI2 : (M : Int) < (K : Int) := by omega
          have hltMn : M < n := by omega
          have hltI3 : (M : Int) < (n : Int) := by omega
          have HY := Lib.hid hy
          unfold sv at h1 h1'
          clear hm2 hy
          by_cases hxy : x = y
          · subst hxy
            go_wp2_with fail
            go_quiet (fail)
            go_wp2_with fail
            go_ret
            exact ⟨named_no _, below_drewN HBE2.out _⟩
          · have hne2 : ((str x).toList == (str y).toList) = false := by rw [str_toList, str_toList]; exact beq_eq_false_iff_ne.2 hxy
            have HXY := Lib.hid hxy
            clear hxy
            go_wp2_with fail
            go_quiet (fail)
            go_wp2_with fail
            go_roundw
            case rel =>
              refine ⟨M + 1, by go_num, by omega, Lib.hid (below_drewN HBE2.out _), Lib.hid (fun i hi => ?_)⟩
              rcases Nat.lt_succ_iff_lt_or_eq.1 hi with h | rfl
              · exact HB2.out i h
              · rw [HY.out]
                intro h
                cases h
                exact HXY.out rfl
            case measure => simp [intOf]; omega
        · have hltI2 : ¬ (M : Int) < (K : Int) := by omega
          have e : M = K := by omega
          obtain ⟨b, off, ea, h1⟩ := (HN.out.below HBE2.out).at HM.out
          subst ea
          unfold sv at h1
          have hR := refName_any x
          have HR := Lib.hid (fun W => refName_any x W (HX.out x (List.mem_iff_getElem?.2 ⟨K, HXX.out⟩)))
          clear hR
          cases hnm : isName x with
          | false =>
            rw [hnm] at HR
            go_wp2_with fail
            refine (HR.out _).mono ?_
            rintro _ w1 ⟨rfl, rfl⟩
            go_wp2_with fail
            go_ret
            exact ⟨named_no _, HBE2.out⟩
          | true =>
            have HNM := Lib.hid hnm
            rw [hnm] at HR
            clear hnm
            go_wp2_with fail
            refine (HR.out _).mono ?_
            rintro _ w1 ⟨rfl, rfl⟩
            go_wp2_with fail
            go_roundw
            case rel =>
              refine ⟨K + 1, by go_num, by omega, HBE2, Lib.hid (fun j s hj he => ?_)⟩
              rcases Nat.lt_succ_iff_lt_or_eq.1 hj with h | rfl
              · exact HB.out j s h he
              · rw [HXX.out] at he
                cases he
                exact ⟨HNM.out, fun i hi => HB2.out i (by omega)⟩
            case measure => simp [intOf]; omega
    · have hltI : ¬ (K : Int) < (n : Int) := by omega
      have e : K = n := by omega
      go_wp2_with fail
      go_ret
      refine ⟨named_yes vs (fun j s h => HB.out j s ?_ h), HBE.out⟩
      rw [e, ← HNN.out]
      exact (List.getElem?_eq_some_iff.1 h).1
end Go.Proofs.YtbeidmkhpcnbbaaDoor.I
