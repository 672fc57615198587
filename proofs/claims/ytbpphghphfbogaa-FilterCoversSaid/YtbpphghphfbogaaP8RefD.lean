/-
  Layer 8, the document's answer: Stream, Pattern, Match, Covers, Meets, Less.
-/
import Derived.Test.YtbpphghphfbogaaP8RefC
namespace Go.Proofs.Ytbpphghphfbogaa.P8
open Go Go.RowKit Go.Shelf Go.Proofs Go.Proofs.Ytbpphghphfbogaa.B Go.Proofs.Ytbpphghphfbogaa.K
set_option linter.unusedVariables false

theorem allL_step (r : List UInt8 → Bool → Bool) {P : List (List UInt8)} {K : Nat} {x : List UInt8} (h : P[K]? = some x) : allL r (P.drop K) = (r x (decide (P.length ≤ K + 1)) && allL r (P.drop (K + 1))) := by
  obtain ⟨hk, rfl⟩ := List.getElem?_eq_some_iff.1 h
  rw [List.drop_eq_getElem_cons hk]
  have : (P.drop (K + 1)).isEmpty = decide (P.length ≤ K + 1) := by
    rw [Bool.eq_iff_iff, List.isEmpty_iff, List.drop_eq_nil_iff, decide_eq_true_eq]
  show (r P[K] (P.drop (K + 1)).isEmpty && allL r (P.drop (K + 1))) = _
  rw [this]

theorem part_len {l : List UInt8} {x : List UInt8} (h : x ∈ parts l) : x.length ≤ l.length := by
  induction l generalizing x with
  | nil => simp [parts] at h; subst h; simp
  | cons b l ih =>
    unfold parts at h
    split at h
    · rcases List.mem_cons.1 h with rfl | h
      · simp
      · have := ih h; simp; omega
    · cases hp : parts l with
      | nil => exact absurd hp (parts_ne l)
      | cons y ys =>
        rw [hp] at h ih
        simp only [onFirst] at h
        rcases List.mem_cons.1 h with rfl | h
        · have := ih (x := y) (by simp); simp; omega
        · have := ih (x := x) (List.mem_cons_of_mem _ h); simp; omega

theorem parts_len (l : List UInt8) : (parts l).length ≤ l.length + 1 := by
  induction l with
  | nil => simp [parts]
  | cons b l ih =>
    unfold parts
    split
    · simp; omega
    · cases hp : parts l with
      | nil => simp [onFirst]
      | cons y ys => rw [hp] at ih; simp [onFirst] at ih ⊢; omega

theorem four (n : Nat) : decide ((n : Int) ≤ 4) = decide (n ≤ 4) := by
  rw [Bool.eq_iff_iff, decide_eq_true_eq, decide_eq_true_eq]; omega

set_option maxHeartbeats 2000000 in
set_option maxRecDepth 100000 in
theorem refStream_any (l : List UInt8) (hl : l.length ≤ 9223372036854775807) (w : World) :
    Calls Try.prog 47 #[.string (str l)] w fun e w' => e = .returned (.bool (streamP l)) ∧ Below w.heap.size w w' := by
  have hsz : (str l).size = l.length := str_size l
  by_cases h32 : l.length ≤ 32
  · have hq : streamP l = (allL rS (parts l) && decide ((parts l).length ≤ 4)) := by unfold streamP rowOk; rw [decide_eq_true h32, Bool.true_and]
    have hI : ¬ (32 : Int) < (l.length : Int) := by omega
    have hml : ∀ x ∈ parts l, x.length ≤ 1000 := fun x hx => by have := part_len hx; omega
    have hpl := parts_len l
    have HC := fun W => parts_any l (by omega) W
    obtain ⟨P, hP⟩ : ∃ P, parts l = P := ⟨_, rfl⟩
    rw [hP] at hq hml hpl HC
    rw [hq]
    obtain ⟨n, hn⟩ : ∃ n, P.length = n := ⟨_, rfl⟩
    rw [hn] at hpl ⊢
    have HML := Lib.hid hml
    have HN := Lib.hid hn
    clear hP hq hml hn
    go_enter Try.func47, Try.ntmps47
    go_wp2_with fail
    refine (HC _).mono ?_
    rintro _ w1 ⟨v, rfl, hp, hb⟩
    have HP := Lib.hid hp
    obtain ⟨b, off, cap, rfl, hcap, hx⟩ := hp
    rw [HN.out] at HP ⊢
    have HB := Lib.hid hb
    clear hx hb hcap
    go_wp2_with fail
    go_loopw [4] (fun k wr => ∃ K : Nat, k = .int .i64 (K : Int) ∧ K ≤ n ∧ Hid (allL rS P = allL rS (P.drop K)) ∧ wr = w1) (fun k _ => n - (intOf k).toNat)
    case atStart => exact ⟨0, rfl, Nat.zero_le _, rfl, rfl⟩
    case round =>
      obtain ⟨K, rfl, hK, HA, rfl⟩ := hrel
      by_cases hlt : K < n
      · have hltI : (K : Int) < (n : Int) := by omega
        have hw1 : IntKind.i64.wrap ((K : Int) + 1) = (K : Int) + 1 := IntWalk.i64_in _ (by omega)
        obtain ⟨x, hx⟩ : ∃ x, P[K]? = some x := ⟨_, List.getElem?_eq_getElem (by rw [HN.out]; exact hlt)⟩
        have hs := allL_step rS hx
        rw [show rS x (decide (P.length ≤ K + 1)) = plainP x from rfl] at hs
        have hcell : wr.cell? ⟨b, off + K, none⟩ = some (.string (str x)) := by
          obtain ⟨b', off', cap', hv, _, hx'⟩ := HP.out
          simp only [Value.slice.injEq, Option.some.injEq, Addr.mk.injEq] at hv
          obtain ⟨⟨rfl, rfl, _⟩, _⟩ := hv
          exact hx' K x hx
        have hC := fun W => refPlain_any x (HML.out x (List.mem_of_getElem? hx)) W
        obtain ⟨r, hr⟩ : ∃ r, plainP x = r := ⟨_, rfl⟩
        rw [hr] at hC hs
        have HS := Lib.hid hs
        clear hs hr hx
        go_wp2_with fail
        refine (hC _).mono ?_
        rintro _ w2 ⟨rfl, rfl⟩
        cases r with
        | false =>
          go_wp2_with fail
          go_ret
          rw [HA.out, HS.out]
          exact ⟨rfl, HB.out⟩
        | true =>
          go_wp2_with fail
          go_roundw
          case rel => exact ⟨K + 1, by go_num, by omega, by show _ = _; rw [HA.out, HS.out, Bool.true_and], by first | trivial | rfl⟩
          case measure => simp [intOf]; omega
      · have hltI : ¬ (K : Int) < (n : Int) := by omega
        have ha := HA.out
        rw [List.drop_of_length_le (by rw [HN.out]; omega)] at ha
        have HA2 := Lib.hid ha; clear ha
        go_wp2_with fail
        go_ret
        rw [HA2.out]
        first | exact ⟨rfl, HB.out⟩ | exact ⟨by simp [allL, four], HB.out⟩
  · have hq : streamP l = false := by unfold streamP rowOk; rw [decide_eq_false h32, Bool.false_and]
    rw [hq]
    have hI : (32 : Int) < (l.length : Int) := by omega
    go_enter Try.func47, Try.ntmps47
    go_wp2_with fail
    go_ret
    exact ⟨rfl, Below.refl _ _⟩

set_option maxHeartbeats 2000000 in
set_option maxRecDepth 100000 in
theorem refPattern_any (l : List UInt8) (hl : l.length ≤ 9223372036854775807) (w : World) :
    Calls Try.prog 24 #[.string (str l)] w fun e w' => e = .returned (.bool (patP l)) ∧ Below w.heap.size w w' := by
  have hsz : (str l).size = l.length := str_size l
  by_cases h32 : l.length ≤ 32
  · have hq : patP l = (allL rP (parts l) && decide ((parts l).length ≤ 4)) := by unfold patP rowOk; rw [decide_eq_true h32, Bool.true_and]
    have hI : ¬ (32 : Int) < (l.length : Int) := by omega
    have hml : ∀ x ∈ parts l, x.length ≤ 1000 := fun x hx => by have := part_len hx; omega
    have hpl := parts_len l
    have HC := fun W => parts_any l (by omega) W
    obtain ⟨P, hP⟩ : ∃ P, parts l = P := ⟨_, rfl⟩
    rw [hP] at hq hml hpl HC
    rw [hq]
    obtain ⟨n, hn⟩ : ∃ n, P.length = n := ⟨_, rfl⟩
    rw [hn] at hpl ⊢
    have HML := Lib.hid hml
    have HN := Lib.hid hn
    clear hP hq hml hn
    go_enter Try.func24, Try.ntmps24
    go_wp2_with fail
    refine (HC _).mono ?_
    rintro _ w1 ⟨v, rfl, hp, hb⟩
    have HP := Lib.hid hp
    obtain ⟨b, off, cap, rfl, hcap, hx⟩ := hp
    rw [HN.out] at HP ⊢
    have HB := Lib.hid hb
    clear hx hb hcap
    go_wp2_with fail
    go_loopw [4] (fun k wr => ∃ K : Nat, k = .int .i64 (K : Int) ∧ K ≤ n ∧ Hid (allL rP P = allL rP (P.drop K)) ∧ wr = w1) (fun k _ => n - (intOf k).toNat)
    case atStart => exact ⟨0, rfl, Nat.zero_le _, rfl, rfl⟩
    case round =>
      obtain ⟨K, rfl, hK, HA, rfl⟩ := hrel
      by_cases hlt : K < n
      · have hltI : (K : Int) < (n : Int) := by omega
        have hw1 : IntKind.i64.wrap ((K : Int) + 1) = (K : Int) + 1 := IntWalk.i64_in _ (by omega)
        obtain ⟨x, hx⟩ : ∃ x, P[K]? = some x := ⟨_, List.getElem?_eq_getElem (by rw [HN.out]; exact hlt)⟩
        have hs := allL_step rP hx
        rw [HN.out] at hs
        have hcell : wr.cell? ⟨b, off + K, none⟩ = some (.string (str x)) := by
          obtain ⟨b', off', cap', hv, _, hx'⟩ := HP.out
          simp only [Value.slice.injEq, Option.some.injEq, Addr.mk.injEq] at hv
          obtain ⟨⟨rfl, rfl, _⟩, _⟩ := hv
          exact hx' K x hx
        have hC := fun W => refPlain_any x (HML.out x (List.mem_of_getElem? hx)) W
        have e1 := eq_one x
        have e2 := eq_many x
        have hrp : rP x (decide (n ≤ K + 1)) = (plainP x || (x == one || (x == many && decide (n ≤ K + 1)))) := rfl
        rw [hrp] at hs
        obtain ⟨r, hr⟩ : ∃ r, plainP x = r := ⟨_, rfl⟩
        obtain ⟨o, ho⟩ : ∃ r, (x == one) = r := ⟨_, rfl⟩
        obtain ⟨m, hm⟩ : ∃ r, (x == many) = r := ⟨_, rfl⟩
        obtain ⟨z, hz⟩ : ∃ r, decide (n ≤ K + 1) = r := ⟨_, rfl⟩
        have hz2 : decide ((K : Int) + 1 < (n : Int)) = !z := by
          rw [← hz, Bool.eq_iff_iff]; simp; omega
        rw [hr] at hC hs
        rw [ho] at e1 hs
        rw [hm] at e2 hs
        rw [hz] at hs
        have HS := Lib.hid hs
        clear hs hr hx ho hm hz hrp
        go_wp2_with fail
        refine (hC _).mono ?_
        rintro _ w2 ⟨rfl, rfl⟩
        cases r with
        | true =>
          go_wp2_with fail
          go_roundw
          case rel => exact ⟨K + 1, by go_num, by omega, by show _ = _; rw [HA.out, HS.out]; simp, by first | trivial | rfl⟩
          case measure => simp [intOf]; omega
        | false =>
          cases o with
          | true =>
            go_wp2_with fail
            go_roundw
            case rel => exact ⟨K + 1, by go_num, by omega, by show _ = _; rw [HA.out, HS.out]; simp, by first | trivial | rfl⟩
            case measure => simp [intOf]; omega
          | false =>
            cases m with
            | false =>
              go_wp2_with fail
              go_ret
              rw [HA.out, HS.out]
              exact ⟨rfl, HB.out⟩
            | true =>
              cases z with
              | true =>
                have hz3 : ¬ (K : Int) + 1 < (n : Int) := by simpa using hz2
                go_wp2_with fail
                go_roundw
                case rel => exact ⟨K + 1, by go_num, by omega, by show _ = _; rw [HA.out, HS.out]; simp, by first | trivial | rfl⟩
                case measure => simp [intOf]; omega
              | false =>
                have hz3 : (K : Int) + 1 < (n : Int) := by simpa using hz2
                go_wp2_with fail
                go_ret
                rw [HA.out, HS.out]
                exact ⟨rfl, HB.out⟩
      · have hltI : ¬ (K : Int) < (n : Int) := by omega
        have ha := HA.out
        rw [List.drop_of_length_le (by rw [HN.out]; omega)] at ha
        have HA2 := Lib.hid ha; clear ha
        go_wp2_with fail
        go_ret
        rw [HA2.out]
        first | exact ⟨rfl, HB.out⟩ | exact ⟨by simp [allL, four], HB.out⟩
  · have hq : patP l = false := by unfold patP rowOk; rw [decide_eq_false h32, Bool.false_and]
    rw [hq]
    have hI : (32 : Int) < (l.length : Int) := by omega
    go_enter Try.func24, Try.ntmps24
    go_wp2_with fail
    go_ret
    exact ⟨rfl, Below.refl _ _⟩
end Go.Proofs.Ytbpphghphfbogaa.P8
