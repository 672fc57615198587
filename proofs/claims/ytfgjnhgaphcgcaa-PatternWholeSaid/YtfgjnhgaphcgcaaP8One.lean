/-
  Layer 8, PatternWhole's own helper: a name that a pattern matches.
-/
import Derived.Test.YtfgjnhgaphcgcaaP8Whole
namespace Go.Proofs.Ytfgjnhgaphcgcaa.P8
open Go Go.RowKit Go.Shelf Go.Proofs Go.Proofs.Ytfgjnhgaphcgcaa.B Go.Proofs.Ytfgjnhgaphcgcaa.K
set_option linter.unusedVariables false

def cntOf (M : Nat) (m : Bool) : Nat := if m = true then M else 1
def subOf (c x : List UInt8) (o m : Bool) : List UInt8 := if o = true ∨ m = true then c else x

theorem oneOf_rep (c : List UInt8) (M : Nat) (x : List UInt8) : oneOf c M x = List.replicate (cntOf M (x == many)) (subOf c x (x == one) (x == many)) := by
  unfold oneOf cntOf subOf
  by_cases hm : x = many
  · simp [hm]
  · by_cases ho : x = one
    · have : ¬ one = many := by decide
      simp [ho, this]
    · simp [hm, ho]

theorem take_one {P : List (List UInt8)} {K : Nat} {x : List UInt8} (h : P[K]? = some x) (c : List UInt8) (M : Nat) :
    oneL c M (P.take (K + 1)) = oneL c M (P.take K) ++ List.replicate (cntOf M (x == many)) (subOf c x (x == one) (x == many)) := by
  rw [List.take_add_one, h, oneL_append]
  show _ ++ (oneOf c M x ++ []) = _
  rw [List.append_nil, oneOf_rep]

theorem oneL_ne {c : List UInt8} {M : Nat} {P : List (List UInt8)} (hc : c ≠ []) (hP : ∀ x ∈ P, x ≠ []) : ∀ y ∈ oneL c M P, y ≠ [] := by
  intro y hy
  rcases mem_oneL hy with rfl | h
  · exact hc
  · exact hP y h

theorem join_more {A : List (List UInt8)} {y : List UInt8} {J : Nat} (hA : ∀ a ∈ A, a ≠ []) (hy : y ≠ []) : joinP (A ++ List.replicate (J + 1) y) = addP (joinP (A ++ List.replicate J y)) y := by
  rw [List.replicate_succ', ← List.append_assoc]
  refine join_snoc _ y fun a ha => ?_
  rcases List.mem_append.1 ha with h | h
  · exact hA a h
  · rw [List.eq_of_mem_replicate h]; exact hy

theorem add_len (t y : List UInt8) : (addP t y).length ≤ t.length + 1 + y.length := by
  unfold addP
  split <;> simp <;> omega

set_option maxHeartbeats 8000000 in
set_option maxRecDepth 100000 in
theorem one_any (q : List UInt8) (c : UInt8) (M : Nat) (hq : patP q = true) (hM : M ≤ 4) (w : World) :
    Calls Try.prog 20 #[.string (str q), .string (str [c]), .int .i64 (M : Int)] w fun e w' => e = .returned (.string (str (joinP (oneL [c] M (parts q))))) ∧ (joinP (oneL [c] M (parts q))).length ≤ 1000 ∧ Below w.heap.size w w' := by
  obtain ⟨q32, qall, q4⟩ := pat_all hq
  have HC := fun W => parts_any q (by omega) W
  have hne := pat_ne _ qall
  have hml : ∀ x ∈ parts q, x.length ≤ 32 := fun x hx => by have := part_len hx; omega
  obtain ⟨P, hP⟩ : ∃ P, parts q = P := ⟨_, rfl⟩
  rw [hP] at HC hne hml q4 ⊢
  obtain ⟨n, hn⟩ : ∃ n, P.length = n := ⟨_, rfl⟩
  rw [hn] at q4
  have HNE := Lib.hid hne
  have HML := Lib.hid hml
  have HN := Lib.hid hn
  have hsc : (str [c]).size = 1 := by rw [str_size]; rfl
  clear hP hne hml hn qall hq q32
  go_enter Try.func20, Try.ntmps20
  go_wp2_with fail
  refine (HC _).mono ?_
  rintro _ w1 ⟨v, rfl, hp, hb⟩
  have HP := Lib.hid hp
  obtain ⟨b, off, cap, rfl, hcap, hx⟩ := hp
  rw [HN.out] at HP ⊢
  have HB := Lib.hid hb
  clear hx hb hcap HC
  go_wp2_with fail
  go_loopg [8, 9, 10, 11, 12] (n + 1) (fun g o i _ _ _ wr => ∃ K : Nat, i = .int .i64 (K : Int) ∧ K + g = n + 1 ∧ o = .string (str (joinP (oneL [c] M (P.take K)))) ∧ Hid ((joinP (oneL [c] M (P.take K))).length ≤ 200 * K) ∧ wr = w1)
  case atStart => exact ⟨0, rfl, by omega, rfl, by show _ ≤ _; rw [List.take_zero]; exact Nat.le_refl _, rfl⟩
  case round =>
    obtain ⟨K, rfl, hK, rfl, HL, rfl⟩ := hrel
    by_cases hlt : K < n
    · have hltI : (K : Int) < (n : Int) := by omega
      have hw1 : IntKind.i64.wrap ((K : Int) + 1) = (K : Int) + 1 := IntWalk.i64_in _ (by omega)
      obtain ⟨x, hx⟩ : ∃ x, P[K]? = some x := ⟨_, List.getElem?_eq_getElem (by rw [HN.out]; exact hlt)⟩
      have hcell : wr.cell? ⟨b, off + K, none⟩ = some (.string (str x)) := by
        obtain ⟨b', off', cap', hv, _, hx'⟩ := HP.out
        simp only [Value.slice.injEq, Option.some.injEq, Addr.mk.injEq] at hv
        obtain ⟨⟨rfl, rfl, _⟩, _⟩ := hv
        exact hx' K x hx
      have e1 := eq_one x
      have e2 := eq_many x
      have htk := take_one hx [c] M
      have hA : ∀ a ∈ oneL [c] M (P.take K), a ≠ [] := oneL_ne (by simp) (fun a ha => HNE.out a (List.mem_of_mem_take ha))
      have hxm := List.mem_of_getElem? hx
      have hx0 := HNE.out x hxm
      have hxl := HML.out x hxm
      have hnot : (x == one) = true → (x == many) = true → False := by
        intro h1 h2
        rw [beq_iff_eq] at h1 h2
        rw [h1] at h2; revert h2; decide
      obtain ⟨A, hAv⟩ : ∃ A, oneL [c] M (P.take K) = A := ⟨_, rfl⟩
      rw [hAv] at htk hA HL ⊢
      obtain ⟨o, ho⟩ : ∃ r, (x == one) = r := ⟨_, rfl⟩
      obtain ⟨m, hm⟩ : ∃ r, (x == many) = r := ⟨_, rfl⟩
      rw [ho] at e1 htk hnot
      rw [hm] at e2 htk hnot
      have HTK := Lib.hid htk
      have HAN := Lib.hid hA
      clear htk hA hAv ho hm hx hxm
      have hT0 : joinP (A ++ List.replicate 0 (subOf [c] x o m)) = joinP A := by rw [List.replicate_zero, List.append_nil]
      cases m with
      | true =>
        cases o with
        | true => exact (hnot rfl rfl).elim
        | false =>
          have hy : subOf [c] x false true = [c] := rfl
          have hcn : cntOf M true = M := rfl
          rw [hy] at hT0
          have htk := HTK.out
          rw [hy, hcn] at htk
          have HT := Lib.hid htk
          have hyl : ([c] : List UInt8).length ≤ 32 := by first | exact hxl | simp
          have hyn : ([c] : List UInt8) ≠ [] := by first | exact hx0 | simp
          have hys : (str ([c] : List UInt8)).size ≤ 32 := by rw [str_size]; exact hyl
          clear htk HTK hy hcn
          rw [← hT0] at HL ⊢
          clear hT0 hnot
          go_wp2_with fail
          go_loopg [8, 11, 12] (M + 1) (fun g o k _ wx => ∃ J : Nat, k = .int .i64 (J : Int) ∧ J + g = M + 1 ∧ J ≤ M ∧ o = .string (str (joinP (A ++ List.replicate J [c]))) ∧ Hid ((joinP (A ++ List.replicate J [c])).length ≤ 200 * K + 40 * J) ∧ wx = wr)
          case atStart => exact ⟨0, rfl, by omega, Nat.zero_le _, rfl, HL.out, rfl⟩
          case round =>
            obtain ⟨J, rfl, hJ, hJN, rfl, HLJ, rfl⟩ := hrel
            by_cases hltJ : J < M
            · have hltJI : (J : Int) < (M : Int) := by omega
              have hw2 : IntKind.i64.wrap ((J : Int) + 1) = (J : Int) + 1 := IntWalk.i64_in _ (by omega)
              have hst := join_more (J := J) HAN.out hyn
              obtain ⟨T, hT⟩ : ∃ T, joinP (A ++ List.replicate J [c]) = T := ⟨_, rfl⟩
              rw [hT] at hst HLJ ⊢
              have hl1 := add_len T [c]
              rw [← hst] at hl1
              have hl2 : (joinP (A ++ List.replicate (J + 1) [c])).length ≤ 200 * K + 40 * (J + 1) := by have := HLJ.out; omega
              have HL2 := Lib.hid hl2
              have hTs : (str T).size ≤ 1000 := by rw [str_size]; have := HLJ.out; omega
              have het := eq_none T
              have HST := Lib.hid hst
              clear hst hl1 hl2 hT
              cases T with
              | nil =>
                have hst2 := HST.out
                rw [show addP [] [c] = [c] from rfl] at hst2
                have hsum : str ([] : List UInt8) ++ str [c] = str [c] := by rw [str_append]; rfl
                have HS2 := Lib.hid hst2
                clear hst2 HST
                rw [List.isEmpty_nil] at het
                go_wp2_with fail
                go_roundg (M - J)
                case measure => omega
                case rel => exact ⟨J + 1, by go_num, by omega, by omega, by rw [HS2.out]; first | done | simp, HL2.out, by first | trivial | rfl⟩
              | cons t0 tr =>
                have hst2 := HST.out
                rw [show addP (t0 :: tr) [c] = (t0 :: tr ++ [47]) ++ [c] from rfl] at hst2
                have HS2 := Lib.hid hst2
                clear hst2 HST
                obtain ⟨T, hT⟩ : ∃ T, t0 :: tr = T := ⟨_, rfl⟩
                rw [List.isEmpty_cons, hT] at het
                rw [hT] at HS2 hTs ⊢
                clear hT
                have hsum1 : str T ++ ⟨#[47]⟩ = str (T ++ [47]) := str_append T [47]
                have hTs2 : (str (T ++ [47])).size ≤ 1001 := by rw [str_size] at hTs ⊢; simp; omega
                have hsum2 : str (T ++ [47]) ++ str [c] = str (T ++ [47] ++ [c]) := str_append _ _
                go_wp2_with fail
                go_roundg (M - J)
                case measure => omega
                case rel => exact ⟨J + 1, by go_num, by omega, by omega, by rw [HS2.out]; first | done | simp, HL2.out, by first | trivial | rfl⟩
            · have hltJI : ¬ (J : Int) < (M : Int) := by omega
              obtain rfl : J = M := by omega
              rw [← HT.out]
              have hl3 := HLJ.out
              rw [← HT.out] at hl3
              have HL3 := Lib.hid hl3
              clear hl3
              go_wp2_with fail
              go_roundg (n - K)
              case measure => omega
              case rel => exact ⟨K + 1, by go_num, by omega, rfl, by have := HL3.out; show _ ≤ _; omega, by first | trivial | rfl⟩
      | false =>
        cases o with
        | true =>
          have hy : subOf [c] x true false = [c] := rfl
          have hcn : cntOf M false = 1 := rfl
          rw [hy] at hT0
          have htk := HTK.out
          rw [hy, hcn] at htk
          have HT := Lib.hid htk
          have hyl : ([c] : List UInt8).length ≤ 32 := by first | exact hxl | simp
          have hyn : ([c] : List UInt8) ≠ [] := by first | exact hx0 | simp
          have hys : (str ([c] : List UInt8)).size ≤ 32 := by rw [str_size]; exact hyl
          clear htk HTK hy hcn
          rw [← hT0] at HL ⊢
          clear hT0 hnot
          go_wp2_with fail
          go_loopg [8, 11, 12] (1 + 1) (fun g o k _ wx => ∃ J : Nat, k = .int .i64 (J : Int) ∧ J + g = 1 + 1 ∧ J ≤ 1 ∧ o = .string (str (joinP (A ++ List.replicate J [c]))) ∧ Hid ((joinP (A ++ List.replicate J [c])).length ≤ 200 * K + 40 * J) ∧ wx = wr)
          case atStart => exact ⟨0, rfl, by omega, Nat.zero_le _, rfl, HL.out, rfl⟩
          case round =>
            obtain ⟨J, rfl, hJ, hJN, rfl, HLJ, rfl⟩ := hrel
            by_cases hltJ : J < 1
            · have hltJI : (J : Int) < 1 := by omega
              have hw2 : IntKind.i64.wrap ((J : Int) + 1) = (J : Int) + 1 := IntWalk.i64_in _ (by omega)
              have hst := join_more (J := J) HAN.out hyn
              obtain ⟨T, hT⟩ : ∃ T, joinP (A ++ List.replicate J [c]) = T := ⟨_, rfl⟩
              rw [hT] at hst HLJ ⊢
              have hl1 := add_len T [c]
              rw [← hst] at hl1
              have hl2 : (joinP (A ++ List.replicate (J + 1) [c])).length ≤ 200 * K + 40 * (J + 1) := by have := HLJ.out; omega
              have HL2 := Lib.hid hl2
              have hTs : (str T).size ≤ 1000 := by rw [str_size]; have := HLJ.out; omega
              have het := eq_none T
              have HST := Lib.hid hst
              clear hst hl1 hl2 hT
              cases T with
              | nil =>
                have hst2 := HST.out
                rw [show addP [] [c] = [c] from rfl] at hst2
                have hsum : str ([] : List UInt8) ++ str [c] = str [c] := by rw [str_append]; rfl
                have HS2 := Lib.hid hst2
                clear hst2 HST
                rw [List.isEmpty_nil] at het
                go_wp2_with fail
                go_roundg (1 - J)
                case measure => omega
                case rel => exact ⟨J + 1, by go_num, by omega, by omega, by rw [HS2.out]; first | done | simp, HL2.out, by first | trivial | rfl⟩
              | cons t0 tr =>
                have hst2 := HST.out
                rw [show addP (t0 :: tr) [c] = (t0 :: tr ++ [47]) ++ [c] from rfl] at hst2
                have HS2 := Lib.hid hst2
                clear hst2 HST
                obtain ⟨T, hT⟩ : ∃ T, t0 :: tr = T := ⟨_, rfl⟩
                rw [List.isEmpty_cons, hT] at het
                rw [hT] at HS2 hTs ⊢
                clear hT
                have hsum1 : str T ++ ⟨#[47]⟩ = str (T ++ [47]) := str_append T [47]
                have hTs2 : (str (T ++ [47])).size ≤ 1001 := by rw [str_size] at hTs ⊢; simp; omega
                have hsum2 : str (T ++ [47]) ++ str [c] = str (T ++ [47] ++ [c]) := str_append _ _
                go_wp2_with fail
                go_roundg (1 - J)
                case measure => omega
                case rel => exact ⟨J + 1, by go_num, by omega, by omega, by rw [HS2.out]; first | done | simp, HL2.out, by first | trivial | rfl⟩
            · have hltJI : ¬ (J : Int) < 1 := by omega
              obtain rfl : J = 1 := by omega
              rw [← HT.out]
              have hl3 := HLJ.out
              rw [← HT.out] at hl3
              have HL3 := Lib.hid hl3
              clear hl3
              go_wp2_with fail
              go_roundg (n - K)
              case measure => omega
              case rel => exact ⟨K + 1, by go_num, by omega, rfl, by have := HL3.out; show _ ≤ _; omega, by first | trivial | rfl⟩
        | false =>
          have hy : subOf [c] x false false = x := rfl
          have hcn : cntOf M false = 1 := rfl
          rw [hy] at hT0
          have htk := HTK.out
          rw [hy, hcn] at htk
          have HT := Lib.hid htk
          have hyl : (x : List UInt8).length ≤ 32 := by first | exact hxl | simp
          have hyn : (x : List UInt8) ≠ [] := by first | exact hx0 | simp
          have hys : (str (x : List UInt8)).size ≤ 32 := by rw [str_size]; exact hyl
          clear htk HTK hy hcn
          rw [← hT0] at HL ⊢
          clear hT0 hnot
          go_wp2_with fail
          go_loopg [8, 11, 12] (1 + 1) (fun g o k _ wx => ∃ J : Nat, k = .int .i64 (J : Int) ∧ J + g = 1 + 1 ∧ J ≤ 1 ∧ o = .string (str (joinP (A ++ List.replicate J x))) ∧ Hid ((joinP (A ++ List.replicate J x)).length ≤ 200 * K + 40 * J) ∧ wx = wr)
          case atStart => exact ⟨0, rfl, by omega, Nat.zero_le _, rfl, HL.out, rfl⟩
          case round =>
            obtain ⟨J, rfl, hJ, hJN, rfl, HLJ, rfl⟩ := hrel
            by_cases hltJ : J < 1
            · have hltJI : (J : Int) < 1 := by omega
              have hw2 : IntKind.i64.wrap ((J : Int) + 1) = (J : Int) + 1 := IntWalk.i64_in _ (by omega)
              have hst := join_more (J := J) HAN.out hyn
              obtain ⟨T, hT⟩ : ∃ T, joinP (A ++ List.replicate J x) = T := ⟨_, rfl⟩
              rw [hT] at hst HLJ ⊢
              have hl1 := add_len T x
              rw [← hst] at hl1
              have hl2 : (joinP (A ++ List.replicate (J + 1) x)).length ≤ 200 * K + 40 * (J + 1) := by have := HLJ.out; omega
              have HL2 := Lib.hid hl2
              have hTs : (str T).size ≤ 1000 := by rw [str_size]; have := HLJ.out; omega
              have het := eq_none T
              have HST := Lib.hid hst
              clear hst hl1 hl2 hT
              cases T with
              | nil =>
                have hst2 := HST.out
                rw [show addP [] x = x from rfl] at hst2
                have hsum : str ([] : List UInt8) ++ str x = str x := by rw [str_append]; rfl
                have HS2 := Lib.hid hst2
                clear hst2 HST
                rw [List.isEmpty_nil] at het
                go_wp2_with fail
                go_roundg (1 - J)
                case measure => omega
                case rel => exact ⟨J + 1, by go_num, by omega, by omega, by rw [HS2.out]; first | done | simp, HL2.out, by first | trivial | rfl⟩
              | cons t0 tr =>
                have hst2 := HST.out
                rw [show addP (t0 :: tr) x = (t0 :: tr ++ [47]) ++ x from rfl] at hst2
                have HS2 := Lib.hid hst2
                clear hst2 HST
                obtain ⟨T, hT⟩ : ∃ T, t0 :: tr = T := ⟨_, rfl⟩
                rw [List.isEmpty_cons, hT] at het
                rw [hT] at HS2 hTs ⊢
                clear hT
                have hsum1 : str T ++ ⟨#[47]⟩ = str (T ++ [47]) := str_append T [47]
                have hTs2 : (str (T ++ [47])).size ≤ 1001 := by rw [str_size] at hTs ⊢; simp; omega
                have hsum2 : str (T ++ [47]) ++ str x = str (T ++ [47] ++ x) := str_append _ _
                go_wp2_with fail
                go_roundg (1 - J)
                case measure => omega
                case rel => exact ⟨J + 1, by go_num, by omega, by omega, by rw [HS2.out]; first | done | simp, HL2.out, by first | trivial | rfl⟩
            · have hltJI : ¬ (J : Int) < 1 := by omega
              obtain rfl : J = 1 := by omega
              rw [← HT.out]
              have hl3 := HLJ.out
              rw [← HT.out] at hl3
              have HL3 := Lib.hid hl3
              clear hl3
              go_wp2_with fail
              go_roundg (n - K)
              case measure => omega
              case rel => exact ⟨K + 1, by go_num, by omega, rfl, by have := HL3.out; show _ ≤ _; omega, by first | trivial | rfl⟩
    · have hltI : ¬ (K : Int) < (n : Int) := by omega
      have hpt : P.take K = P := List.take_of_length_le (by rw [HN.out]; omega)
      rw [hpt] at HL ⊢
      clear hpt
      go_wp2_with fail
      go_ret
      exact ⟨rfl, by have := HL.out; omega, HB.out⟩
end Go.Proofs.Ytfgjnhgaphcgcaa.P8
