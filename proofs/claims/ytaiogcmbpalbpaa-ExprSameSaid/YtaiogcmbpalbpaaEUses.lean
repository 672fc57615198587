/-
  Contract of the reference of layer 3: Uses.
-/
import Derived.Test.YtaiogcmbpalbpaaEDepth
namespace Go.Proofs.Ytaiogcmbpalbpaa.E
open Go Go.RowKit Go.Proofs.Ytaiogcmbpalbpaa.B Go.Proofs.Ytaiogcmbpalbpaa.K
set_option linter.unusedVariables false

theorem usesTop_at (o most : Int) (code : List In) (k : Nat) (i : In) (h : code[k]? = some i) (t : Int) :
    usesTop o most (code.drop k) t = usesTop o most (code.drop (k + 1)) (if i.1 = o ∧ 0 ≤ i.2 ∧ i.2 < most then max t i.2 else t) := by
  obtain ⟨hk, e⟩ := List.getElem?_eq_some_iff.1 h
  rw [List.drop_eq_getElem_cons hk, e]
  rfl

/-- Is a name named? -/
def named (o n : Int) (i : In) : Bool := decide (i.1 = o ∧ i.2 = n)

theorem any_at (p : In → Bool) (code : List In) (k : Nat) (i : In) (h : code[k]? = some i) : (code.take (k + 1)).any p = ((code.take k).any p || p i) := by
  rw [List.take_add_one, h, List.any_append]
  simp

theorem Try.info4 : (Try.prog.info? 4).map (fun i => (i.zero, i.size, i.bytes)) = some (some (.bool false), 1, 1) := by kernel_rfl

/-- The first names of those that are told. -/
def usesTo (o : Int) (code : List In) (k : Nat) : List Bool := (List.range k).map fun (n : Nat) => code.any (named o n)

theorem usesTo_succ (o : Int) (code : List In) (k : Nat) : usesTo o code (k + 1) = usesTo o code k ++ [code.any (named o k)] := by
  unfold usesTo; rw [List.range_succ, List.map_append]; rfl
theorem uses_eq (o most : Int) (code : List In) (k : Nat) (h : usesTop o most code (-1) + 1 = (k : Int)) : uses o most code = usesTo o code k := by
  unfold uses usesTo named; rw [h, Int.toNat_natCast]
theorem usesTo_length (o : Int) (code : List In) (k : Nat) : (usesTo o code k).length = k := by simp [usesTo]

theorem one_newb (w : World) (b : Bool) (e : TypeId) : ∀ (j : Nat) (u : Value), [Value.bool b][j]? = some u → (w.alloc (.cells #[.bool b] e)).cell? ((⟨w.heap.size, 0, none⟩ : Addr).add j) = some u := one_new w (.bool b) e
theorem one_cellb (b : Bool) : ∀ u ∈ [Value.bool b], u.oneCell' = true := by intro u hu; simp at hu; subst hu; rfl

set_option maxHeartbeats 1000000 in
theorem refUses_any (code : List In) (v : Value) (o most : Int) (w : World) (hs : SlI w v code) (hl : code.length ≤ 9223372036854775807) (hm0 : 0 ≤ most) (hm : most ≤ 100) :
    Calls Try.prog 17 #[v, .int .i64 o, .int .i64 most] w fun e w' => (∃ u, e = .returned u ∧ Sl w' u ((uses o most code).map Value.bool)) ∧ Below w.heap.size w w' := by
  obtain ⟨i0, hi, hz0, hz1, hz2⟩ := info_parts Try.info4
  have HS := Lib.hid hs
  obtain ⟨a, cap, rfl, -⟩ := hs
  have HL := Lib.hid hl; clear hl
  obtain ⟨n, hN⟩ : ∃ n, code.length = n := ⟨_, rfl⟩
  rw [hN] at HL HS ⊢
  have HN := Lib.hid hN
  clear hN
  go_enter Try.func17, Try.ntmps17
  go_wp2_with fail
  go_loop [7, 8] (fun t k => ∃ (T : Int) (K : Nat), t = .int .i64 T ∧ k = .int .i64 (K : Int) ∧ K ≤ n ∧ -1 ≤ T ∧ T ≤ most ∧ Hid (usesTop o most (code.drop K) T = usesTop o most code (-1))) (fun _ k => n - (intOf k).toNat)
  case atStart => exact ⟨-1, 0, rfl, rfl, Nat.zero_le _, by omega, by omega, rfl⟩
  case round =>
    obtain ⟨T, K, rfl, rfl, hK, hT0, hT1, HT⟩ := hrel
    by_cases hlt : K < n
    · obtain ⟨i, hi'⟩ : ∃ i, code[K]? = some i := ⟨_, List.getElem?_eq_getElem (by rw [HN.out]; exact hlt)⟩
      obtain ⟨b, off, rfl, h1, h2⟩ := HS.out.at hi'
      have hd := usesTop_at o most code K i hi' T
      rw [HT.out] at hd
      have HDD := Lib.hid hd
      have hwK : IntKind.i64.wrap ((K : Int) + 1) = (K : Int) + 1 := IntWalk.i64_in _ (by have := HL.out; omega)
      have hltI : (K : Int) < (n : Int) := by omega
      obtain ⟨p, x⟩ := i
      clear hd hi' HT
      by_cases hp : p = o
      · subst hp
        by_cases x0 : 0 ≤ x
        · by_cases x1 : x < most
          · have hd2 := HDD.out
            rw [if_pos ⟨rfl, x0, x1⟩] at hd2
            by_cases hmx : T < x
            · rw [show max T x = x by omega] at hd2
              have HD2 := Lib.hid hd2; clear hd2
              go_wp2_with fail
              go_round
              case rel => exact ⟨x, K + 1, rfl, by go_num, by omega, by omega, by omega, HD2.out.symm⟩
              case measure => simp [intOf]; omega
            · rw [show max T x = T by omega] at hd2
              have HD2 := Lib.hid hd2; clear hd2
              go_wp2_with fail
              go_round
              case rel => exact ⟨T, K + 1, rfl, by go_num, by omega, by omega, by omega, HD2.out.symm⟩
              case measure => simp [intOf]; omega
          · have hd2 := HDD.out
            rw [if_neg (by omega)] at hd2
            have HD2 := Lib.hid hd2; clear hd2
            have bx1 : decide (x < most) = false := decide_eq_false x1
            go_wp2_with fail
            go_round
            case rel => exact ⟨T, K + 1, rfl, by go_num, by omega, by omega, by omega, HD2.out.symm⟩
            case measure => simp [intOf]; omega
        · have hd2 := HDD.out
          rw [if_neg (by omega)] at hd2
          have HD2 := Lib.hid hd2; clear hd2
          have bx0 : decide (0 ≤ x) = false := decide_eq_false x0
          go_wp2_with fail
          go_round
          case rel => exact ⟨T, K + 1, rfl, by go_num, by omega, by omega, by omega, HD2.out.symm⟩
          case measure => simp [intOf]; omega
      · have hd2 := HDD.out
        rw [if_neg (fun h => hp h.1)] at hd2
        have HD2 := Lib.hid hd2; clear hd2
        have bp : (p == o) = false := by simp [hp]
        clear hp
        go_wp2_with fail
        go_round
        case rel => exact ⟨T, K + 1, rfl, by go_num, by omega, by omega, by omega, HD2.out.symm⟩
        case measure => simp [intOf]; omega
    · have hend : T = usesTop o most code (-1) := by
        rw [← HT.out, List.drop_eq_nil_of_le (by rw [HN.out]; omega)]; rfl
      have hltI : ¬ (K : Int) < (n : Int) := by omega
      obtain ⟨Z, hZ⟩ := Int.eq_ofNat_of_zero_le (show 0 ≤ T + 1 by omega)
      obtain rfl : T = (Z : Int) - 1 := by omega
      have hu := uses_eq o most code Z (by rw [← hend]; omega)
      have HU := Lib.hid hu
      have hZ1 : Z ≤ 101 := by omega
      clear hu hend hT0 hT1 hZ HT
      go_wp2_with fail
      go_loopw [9, 10, 11, 12] (fun out q _ _ wr => ∃ (J : Nat), q = .int .i64 (J : Int) ∧ J ≤ Z ∧ wr.ownsRow w.heap.size 4 1 out J ((usesTo o code J).map Value.bool) ∧ Hid (Below w.heap.size w wr)) (fun _ q _ _ _ => Z - (intOf q).toNat)
      case atStart => exact ⟨0, rfl, Nat.zero_le _, World.ownsRow_nil _ _ _ _, Below.refl _ _⟩
      case round =>
        obtain ⟨J, rfl, hJ, hown, HBE⟩ := hrel
        have HOWN := Lib.hid hown; clear hown
        by_cases hJZ : J < Z
        · have hJI : (J : Int) ≤ (Z : Int) - 1 := by omega
          go_wp2_with fail
          go_loop [11, 12] (fun is k => ∃ (B : Bool) (M : Nat), is = .bool B ∧ k = .int .i64 (M : Int) ∧ M ≤ n ∧ Hid ((code.take M).any (named o J) = B)) (fun _ k => n - (intOf k).toNat)
          case atStart => exact ⟨false, 0, rfl, rfl, Nat.zero_le _, rfl⟩
          case round =>
            obtain ⟨B, M, rfl, rfl, hM, HB⟩ := hrel
            by_cases hMn : M < n
            · obtain ⟨i, hi'⟩ : ∃ i, code[M]? = some i := ⟨_, List.getElem?_eq_getElem (by rw [HN.out]; exact hMn)⟩
              obtain ⟨b, off, rfl, h1, h2⟩ := (HS.out.below HBE.out).at hi'
              have hd := any_at (named o J) code M i hi'
              rw [HB.out] at hd
              have HDD := Lib.hid hd
              have hwM : IntKind.i64.wrap ((M : Int) + 1) = (M : Int) + 1 := IntWalk.i64_in _ (by have := HL.out; omega)
              have hMI : (M : Int) < (n : Int) := by omega
              obtain ⟨p, x⟩ := i
              clear hd hi' HB
              cases B with
              | true =>
                have hd2 := HDD.out
                rw [Bool.true_or] at hd2
                have HD2 := Lib.hid hd2; clear hd2
                go_wp2_with fail
                go_round
                case rel => exact ⟨true, M + 1, rfl, by go_num, by omega, HD2.out⟩
                case measure => simp [intOf]; omega
              | false =>
                by_cases hp : p = o
                · subst hp
                  by_cases hx : x = (J : Int)
                  · have hd2 := HDD.out
                    rw [show named p J (p, x) = true from decide_eq_true ⟨rfl, hx⟩] at hd2
                    have HD2 := Lib.hid hd2; clear hd2
                    have bx : (x == (J : Int)) = true := by simp [hx]
                    clear hx
                    go_wp2_with fail
                    go_round
                    case rel => exact ⟨true, M + 1, rfl, by go_num, by omega, HD2.out⟩
                    case measure => simp [intOf]; omega
                  · have hd2 := HDD.out
                    rw [show named p J (p, x) = false from decide_eq_false (fun h => hx h.2)] at hd2
                    have HD2 := Lib.hid hd2; clear hd2
                    have bx : (x == (J : Int)) = false := by simp [hx]
                    clear hx
                    go_wp2_with fail
                    go_round
                    case rel => exact ⟨false, M + 1, rfl, by go_num, by omega, HD2.out⟩
                    case measure => simp [intOf]; omega
                · have hd2 := HDD.out
                  rw [show named o J (p, x) = false from decide_eq_false (fun h => hp h.1)] at hd2
                  have HD2 := Lib.hid hd2; clear hd2
                  have bp : (p == o) = false := by simp [hp]
                  clear hp
                  go_wp2_with fail
                  go_round
                  case rel => exact ⟨false, M + 1, rfl, by go_num, by omega, HD2.out⟩
                  case measure => simp [intOf]; omega
            · have hfull : code.any (named o J) = B := by rw [← HB.out, List.take_of_length_le (by rw [HN.out]; omega)]
              have HF := Lib.hid hfull; clear hfull
              have hMI : ¬ (M : Int) < (n : Int) := by omega
              have hwJ : IntKind.i64.wrap ((J : Int) + 1) = (J : Int) + 1 := IntWalk.i64_in _ (by omega)
              have hc5 : w.heap.size ≤ (wr.alloc (.cells #[.bool B] 4)).heap.size := by have := HBE.out.size; simp; omega
              have HC5 := Lib.hid hc5; clear hc5
              have hc4 : (J + 1) * 1 ≤ 140737488355328 := by omega
              have HC4 := Lib.hid hc4; clear hc4
              go_wp2_with (at_builtin; refine wpList_append_own _ rfl _ _ 33 rfl w.heap.size 4 i0 (.bool false) 1 1 Try.underlying33 hi hz0 hz1 hz2 rfl (by decide) _ _ _ rfl (HOWN.out.alloc _) ⟨wr.heap.size, 0, none⟩ 1 1 [.bool B] rfl rfl (one_newb _ _ _) (one_cellb _) (by unfold maxLen; omega) HC4.out HC5.out ?_; intro v' w1 hown' hgrow hnn; clear hnn)
              have hb1 : Below w.heap.size w w1 := (HBE.out.alloc HBE.out.size _).grown hgrow HC5.out (owns_block HOWN.out)
              rw [show (usesTo o code J).map Value.bool ++ [Value.bool B] = (usesTo o code (J + 1)).map Value.bool by rw [usesTo_succ, List.map_append, HF.out]; rfl] at hown'
              clear hgrow
              go_wp2_with fail
              go_roundw
              case rel => exact ⟨J + 1, by go_num, by omega, hown', hb1⟩
              case measure => simp [intOf]; omega
        · have hJI : ¬ (J : Int) ≤ (Z : Int) - 1 := by omega
          have hJe : J = Z := by omega
          have HJ := Lib.hid hJe
          clear hJe
          go_wp2_with fail
          go_ret
          exact ⟨⟨_, rfl, by rw [HU.out, ← HJ.out]; exact Sl.owns HOWN.out⟩, HBE.out⟩
end Go.Proofs.Ytaiogcmbpalbpaa.E
