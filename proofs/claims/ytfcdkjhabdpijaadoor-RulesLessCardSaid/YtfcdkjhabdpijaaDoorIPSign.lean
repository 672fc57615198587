/-
  Contracts of the program of layer 4: the longest sign, the instructions that are called.
-/
import Derived.Test.YtfcdkjhabdpijaaDoorIPWords
import Derived.Laws.Rows
namespace Go.Proofs.YtfcdkjhabdpijaaDoor.I
open Go Go.RowKit Go.Proofs.YtfcdkjhabdpijaaDoor.B Go.Proofs.YtfcdkjhabdpijaaDoor.K Go.Proofs.YtfcdkjhabdpijaaDoor.E
set_option linter.unusedVariables false

/-- The longer sign, if a text begins with it. -/
def better (u l s : Bs) : Bs := if l.length < s.length ∧ s.isPrefixOf u = true then s else l
/-- The longest sign that a text begins with. -/
def sgn (u : Bs) : Bs := signL.foldl (better u) []

theorem signA_get (K : Nat) (l : Bs) (h : signL[K]? = some l) : (signL.map sv).toArray[K]? = some (sv l) := by simp [h]

theorem sgn_step (u : Bs) (K : Nat) (l : Bs) (h : signL[K]? = some l) : (signL.take (K + 1)).foldl (better u) [] = better u ((signL.take K).foldl (better u) []) l := by
  rw [List.take_add_one, h, List.foldl_append]; rfl

theorem better_le (u l s : Bs) (hl : l.length ≤ 3) (hs : s.length ≤ 3) : (better u l s).length ≤ 3 := by unfold better; split <;> assumption
theorem signs_le (K : Nat) (l : Bs) (h : signL[K]? = some l) : l.length ≤ 3 := by
  have : ∀ x ∈ signL, x.length ≤ 3 := by decide
  exact this l (List.mem_of_getElem? h)

theorem run_index_signs {cs : Array Value} {K : Nat} {u : Value} (w : World) (hK : K < 17) (hu : cs[K]? = some u) :
    (Instr.index 112 (.agg cs) (.int .i64 (K : Int))).run Tryd.prog w = .ok u w := by
  have hn : 0 ≤ (K : Int) ∧ (K : Int) < (17 : Nat) := by omega
  simp [Instr.index, run_underlying Tryd.underlying112, asIntOf, hn, go_sem, Tryd.sizeOf9, Tryd.isAgg9, hu]
  intro h
  omega

theorem run_index_three {cs : Array Value} {K : Nat} {u : Value} (w : World) (hK : K < 3) (hu : cs[K]? = some u) :
    (Instr.index 111 (.agg cs) (.int .i64 (K : Int))).run Tryd.prog w = .ok u w := by
  have hn : 0 ≤ (K : Int) ∧ (K : Int) < (3 : Nat) := by omega
  simp [Instr.index, run_underlying Tryd.underlying111, asIntOf, hn, go_sem, Tryd.sizeOf3, Tryd.isAgg3, hu]
  intro h
  omega

set_option maxHeartbeats 1000000 in
set_option maxRecDepth 100000 in
theorem signAt_any (u : Bs) (w : World) (hg : Glob w) (hl : u.length ≤ 9223372036854775807) :
    Calls Tryd.prog 86 #[sv u] w fun e w' => e = .returned (sv (sgn u)) ∧ w = w' := by
  obtain ⟨⟨T, fr, hs⟩⟩ := hg
  have HI := Lib.hid (show (Tryd.prog.info? 112).map (·.size) = some (signL.map sv).toArray.size by kernel_rfl)
  obtain ⟨A, hA⟩ : ∃ A, (signL.map sv).toArray = A := ⟨_, rfl⟩
  have HG := Lib.hid (fun K l h => (hA ▸ signA_get K l h : A[K]? = some (sv l)))
  rw [hA] at hs HI
  clear hA
  have HLen := Lib.hid hl
  clear hl
  unfold sv
  go_enter Tryd.func86, Tryd.ntmps86
  go_wp2_with (refine wpList_load_row rfl 112 _ rfl 0 rfl T A fr _ hs Tryd.underlying112 rfl HI.out ?_)
  go_loopw [3, 7] (fun l k wr => ∃ (K : Nat) (b : Bs), k = .int .i64 (K : Int) ∧ l = .string (str b) ∧ K ≤ 17 ∧ w = wr ∧ Hid (b = (signL.take K).foldl (better u) [])) (fun _ k _ => 17 - (intOf k).toNat)
  case atStart => exact ⟨0, [], rfl, rfl, Nat.zero_le _, rfl, Lib.hid rfl⟩
  case round =>
    obtain ⟨K, b, rfl, rfl, hK, rfl, HB⟩ := hrel
    by_cases hlt : K < 17
    · obtain ⟨l, hl⟩ : ∃ l, signL[K]? = some l := ⟨_, List.getElem?_eq_getElem hlt⟩
      have hAK := HG.out K l hl
      have hltI : (K : Int) < 17 := by omega
      have hwK : IntKind.i64.wrap ((K : Int) + 1) = (K : Int) + 1 := IntWalk.i64_in _ (by omega)
      have HL := Lib.hid hl
      clear hl
      unfold sv at hAK
      have hI := fun W => run_index_signs (cs := A) W hlt hAK
      have hsz : (str l).size = l.length := str_size l
      have hszb : (str b).size = b.length := str_size b
      have hs3 := Lib.hid (signs_le K l HL.out)
      have hstep := Lib.hid (sgn_step u K l HL.out)
      clear hAK
      by_cases hlen : b.length < l.length
      · have hlenI : (b.length : Int) < (l.length : Int) := by omega
        have HP := Lib.hid (fun W => S.strings_HasPrefix (str u) (str l) W)
        rw [str_data, str_data] at HP
        obtain ⟨x, hx⟩ : ∃ x, Lib.hasPrefix u l = x := ⟨_, rfl⟩
        rw [hx] at HP
        have HX := Lib.hid hx
        clear hx
        cases x with
        | true =>
          go_wp2_with (go_at_call 91; refine (HP.out _).mono ?_; rintro _ w1 ⟨rfl, rfl⟩)
          go_roundw
          case rel => exact ⟨K + 1, l, by go_num, rfl, by omega, trivial, Lib.hid (by rw [hstep.out, ← HB.out]; unfold better; rw [if_pos ⟨hlen, HX.out⟩])⟩
          case measure => simp [intOf]; omega
        | false =>
          go_wp2_with (go_at_call 91; refine (HP.out _).mono ?_; rintro _ w1 ⟨rfl, rfl⟩)
          go_roundw
          case rel => exact ⟨K + 1, b, by go_num, rfl, by omega, trivial, Lib.hid (by rw [hstep.out, ← HB.out]; unfold better; rw [if_neg (fun h => by have h2 := h.2; rw [show l.isPrefixOf u = false from HX.out] at h2; cases h2)])⟩
          case measure => simp [intOf]; omega
      · have hlenI : ¬ (b.length : Int) < (l.length : Int) := by omega
        go_wp2_with fail
        go_roundw
        case rel => exact ⟨K + 1, b, by go_num, rfl, by omega, trivial, Lib.hid (by rw [hstep.out, ← HB.out]; unfold better; rw [if_neg (fun h => hlen h.1)])⟩
        case measure => simp [intOf]; omega
    · have hltI : ¬ (K : Int) < 17 := by omega
      obtain rfl : K = 17 := by omega
      go_wp2_with fail
      go_ret
      exact ⟨by rw [HB.out]; rfl, rfl⟩
/-- The instruction that a word calls. -/
def calledOf (s : Bs) : Int := if s = wmin then 9 else if s = wmax then 10 else if s = wif then 16 else 0
def threeW (j : Nat) : Bs := match j with | 0 => wmin | 1 => wmax | _ => wif

theorem three_next {s : Bs} {k : Nat} (h : ∀ j, j < k → s ≠ threeW j) (hk : s ≠ threeW k) : ∀ j, j < k + 1 → s ≠ threeW j := by
  intro j hj
  rcases Nat.lt_succ_iff_lt_or_eq.1 hj with h1 | rfl
  · exact h j h1
  · exact hk

set_option maxHeartbeats 1000000 in
set_option maxRecDepth 100000 in
theorem called_any (s : Bs) (w : World) (hg : Glob w) :
    Calls Tryd.prog 75 #[sv s] w fun e w' => e = .returned (.int .i64 (calledOf s)) ∧ w = w' := by
  have c9 := hg.cell 9 wmin rfl
  have c10 := hg.cell 10 wmax rfl
  have c16 := hg.cell 16 wif rfl
  clear hg
  unfold sv at c9 c10 c16 ⊢
  go_enter Tryd.func75, Tryd.ntmps75
  go_wp2_with fail
  go_loopw [6] (fun k wr => ∃ (K : Nat), k = .int .i64 (K : Int) ∧ K ≤ 3 ∧ w = wr ∧ Hid (∀ j, j < K → s ≠ threeW j)) (fun k _ => 3 - (intOf k).toNat)
  case atStart => exact ⟨0, rfl, Nat.zero_le _, rfl, Lib.hid (fun j h => absurd h (Nat.not_lt_zero _))⟩
  case round =>
    obtain ⟨K, rfl, hK, rfl, HB⟩ := hrel
    rcases (show K = 0 ∨ K = 1 ∨ K = 2 ∨ K = 3 by omega) with rfl | rfl | rfl | rfl
    · have hI : ∀ W, (Instr.index 111 (.agg #[.int .i64 9, .int .i64 10, .int .i64 16]) (.int .i64 0)).run Tryd.prog W = .ok (.int .i64 9) W := fun W => run_index_three (K := 0) W (by decide) rfl
      by_cases he : s = wmin
      · subst he
        have e1 : (str wmin).toList = wmin := str_toList wmin
        go_wp2_with fail
        go_ret
        exact ⟨by first | rfl | decide, rfl⟩
      · have hne : ((str s).toList == (str wmin).toList) = false := by rw [str_toList, str_toList]; exact beq_eq_false_iff_ne.2 he
        have HN := Lib.hid he
        clear he
        go_wp2_with fail
        go_roundw
        case rel => exact ⟨1, rfl, by omega, trivial, Lib.hid (three_next HB.out HN.out)⟩
        case measure => simp [intOf]
    · have hI : ∀ W, (Instr.index 111 (.agg #[.int .i64 9, .int .i64 10, .int .i64 16]) (.int .i64 1)).run Tryd.prog W = .ok (.int .i64 10) W := fun W => run_index_three (K := 1) W (by decide) rfl
      by_cases he : s = wmax
      · subst he
        have e1 : (str wmax).toList = wmax := str_toList wmax
        go_wp2_with fail
        go_ret
        exact ⟨by first | rfl | decide, rfl⟩
      · have hne : ((str s).toList == (str wmax).toList) = false := by rw [str_toList, str_toList]; exact beq_eq_false_iff_ne.2 he
        have HN := Lib.hid he
        clear he
        go_wp2_with fail
        go_roundw
        case rel => exact ⟨2, rfl, by omega, trivial, Lib.hid (three_next HB.out HN.out)⟩
        case measure => simp [intOf]
    · have hI : ∀ W, (Instr.index 111 (.agg #[.int .i64 9, .int .i64 10, .int .i64 16]) (.int .i64 2)).run Tryd.prog W = .ok (.int .i64 16) W := fun W => run_index_three (K := 2) W (by decide) rfl
      by_cases he : s = wif
      · subst he
        have e1 : (str wif).toList = wif := str_toList wif
        go_wp2_with fail
        go_ret
        exact ⟨by first | rfl | decide, rfl⟩
      · have hne : ((str s).toList == (str wif).toList) = false := by rw [str_toList, str_toList]; exact beq_eq_false_iff_ne.2 he
        have HN := Lib.hid he
        clear he
        go_wp2_with fail
        go_roundw
        case rel => exact ⟨3, rfl, by omega, trivial, Lib.hid (three_next HB.out HN.out)⟩
        case measure => simp [intOf]
    · go_wp2_with fail
      go_ret
      refine ⟨?_, rfl⟩
      have e : calledOf s = 0 := by
        unfold calledOf
        rw [if_neg (show ¬ s = wmin from HB.out 0 (by omega)), if_neg (show ¬ s = wmax from HB.out 1 (by omega)), if_neg (show ¬ s = wif from HB.out 2 (by omega))]
      rw [e]; rfl
end Go.Proofs.YtfcdkjhabdpijaaDoor.I
