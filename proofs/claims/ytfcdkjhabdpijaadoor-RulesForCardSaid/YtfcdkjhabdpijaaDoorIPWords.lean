/-
  Contracts of the program of layer 4: letters, digits, how far a word goes.
-/
import Derived.Test.YtfcdkjhabdpijaaDoorIMem
import Derived.Test.YtfcdkjhabdpijaaDoorSLib
import Derived.Deep.QuietTactic
namespace Go.Proofs.YtfcdkjhabdpijaaDoor.I
open Go Go.RowKit Go.Proofs.YtfcdkjhabdpijaaDoor.B Go.Proofs.YtfcdkjhabdpijaaDoor.K Go.Proofs.YtfcdkjhabdpijaaDoor.E
set_option linter.unusedVariables false

set_option maxHeartbeats 400000 in
theorem isLetter_any (c : UInt8) (w : World) : Calls Tryd.prog 73 #[.int .u8 (c.toNat : Int)] w fun e w' => e = .returned (.bool (letter c)) ∧ w = w' := by
  obtain ⟨n, hn⟩ : ∃ n, c.toNat = n := ⟨_, rfl⟩
  have hv : letter c = decide (97 ≤ n ∧ n ≤ 122) := by unfold letter; rw [hn]
  rw [hv, hn]
  clear hv hn
  by_cases h1 : 97 ≤ n
  · have hd : decide (97 ≤ n ∧ n ≤ 122) = decide (n ≤ 122) := by (rw [Bool.eq_iff_iff]; simp [h1])
    have h1' : 97 ≤ (n : Int) := by omega
    rw [hd]
    clear hd
    go_enter Tryd.func73, Tryd.ntmps73
    go_wp2_with fail
    go_ret
    exact ⟨ret_bool (by (rw [Bool.eq_iff_iff]; simp <;> omega)), rfl⟩
  · have hd : decide (97 ≤ n ∧ n ≤ 122) = false := decide_eq_false (by omega)
    have b1 : decide (97 ≤ (n : Int)) = false := decide_eq_false (by omega)
    rw [hd]
    clear hd h1
    go_enter Tryd.func73, Tryd.ntmps73
    go_wp2_with fail
    go_ret
    exact ⟨rfl, rfl⟩

set_option maxHeartbeats 400000 in
theorem isDigit_any (c : UInt8) (w : World) : Calls Tryd.prog 84 #[.int .u8 (c.toNat : Int)] w fun e w' => e = .returned (.bool (digit c)) ∧ w = w' := by
  obtain ⟨n, hn⟩ : ∃ n, c.toNat = n := ⟨_, rfl⟩
  have hv : digit c = decide (48 ≤ n ∧ n ≤ 57) := by unfold digit; rw [hn]
  rw [hv, hn]
  clear hv hn
  by_cases h1 : 48 ≤ n
  · have hd : decide (48 ≤ n ∧ n ≤ 57) = decide (n ≤ 57) := by (rw [Bool.eq_iff_iff]; simp [h1])
    have h1' : 48 ≤ (n : Int) := by omega
    rw [hd]
    clear hd
    go_enter Tryd.func84, Tryd.ntmps84
    go_wp2_with fail
    go_ret
    exact ⟨ret_bool (by (rw [Bool.eq_iff_iff]; simp <;> omega)), rfl⟩
  · have hd : decide (48 ≤ n ∧ n ≤ 57) = false := decide_eq_false (by omega)
    have b1 : decide (48 ≤ (n : Int)) = false := decide_eq_false (by omega)
    rw [hd]
    clear hd h1
    go_enter Tryd.func84, Tryd.ntmps84
    go_wp2_with fail
    go_ret
    exact ⟨rfl, rfl⟩

set_option maxHeartbeats 400000 in
theorem ofName_any (c : UInt8) (w : World) : Calls Tryd.prog 83 #[.int .u8 (c.toNat : Int)] w fun e w' => e = .returned (.bool (idc c)) ∧ w = w' := by
  have HL := Lib.hid (fun W => isLetter_any c W)
  have HD := Lib.hid (fun W => isDigit_any c W)
  rw [idc_of]
  have h95 : decide (c = 95) = decide (c.toNat = 95) := by
    rw [Bool.eq_iff_iff]; simp only [decide_eq_true_eq]
    exact ⟨fun h => by rw [h]; rfl, fun h => UInt8.toNat_inj.1 h⟩
  rw [h95]
  obtain ⟨n, hn⟩ : ∃ n, c.toNat = n := ⟨_, rfl⟩
  rw [hn] at HL HD ⊢
  clear h95
  obtain ⟨bl, hbl⟩ : ∃ b, letter c = b := ⟨_, rfl⟩
  obtain ⟨bd, hbd⟩ : ∃ b, digit c = b := ⟨_, rfl⟩
  rw [hbl] at HL ⊢
  rw [hbd] at HD ⊢
  clear hbl hbd hn
  cases bl with
  | true =>
    go_enter Tryd.func83, Tryd.ntmps83
    go_wp2_with (go_at_call 73; refine (HL.out _).mono ?_; rintro _ w1 ⟨rfl, rfl⟩)
    go_ret
    exact ⟨rfl, rfl⟩
  | false =>
    cases bd with
    | true =>
      go_enter Tryd.func83, Tryd.ntmps83
      go_wp2_with (first | (go_at_call 73; refine (HL.out _).mono ?_; rintro _ w1 ⟨rfl, rfl⟩) | (go_at_call 84; refine (HD.out _).mono ?_; rintro _ w1 ⟨rfl, rfl⟩))
      go_ret
      exact ⟨rfl, rfl⟩
    | false =>
      go_enter Tryd.func83, Tryd.ntmps83
      go_wp2_with (first | (go_at_call 73; refine (HL.out _).mono ?_; rintro _ w1 ⟨rfl, rfl⟩) | (go_at_call 84; refine (HD.out _).mono ?_; rintro _ w1 ⟨rfl, rfl⟩))
      go_ret
      exact ⟨ret_bool (by (rw [Bool.eq_iff_iff]; simp <;> omega)), rfl⟩

theorem takeWhile_stop {p : UInt8 → Bool} (l : Bs) (k : Nat) (hk : k ≤ l.length) (h1 : ∀ j c, j < k → l[j]? = some c → p c = true) (h2 : ∀ c, l[k]? = some c → p c = false) : l.takeWhile p = l.take k := by
  induction l generalizing k with
  | nil => simp
  | cons c r ih =>
    cases k with
    | zero =>
      have := h2 c rfl
      rw [List.takeWhile_cons, if_neg (by rw [this]; decide), List.take_zero]
    | succ k =>
      have := h1 0 c (by omega) rfl
      rw [List.takeWhile_cons, if_pos this, List.take_succ_cons, ih k (by simpa using hk) (fun j d hj hd => h1 (j + 1) d (by omega) hd) (fun d hd => h2 d hd)]

theorem begin_end {p : UInt8 → Bool} (u : Bs) (m M K : Nat) (hx : M ≤ u.length ∧ (u.take m).length = M) (hK : K ≤ M) (h1 : ∀ j c, j < K → u[j]? = some c → p c = true) (h2 : ∀ c, (u.take m)[K]? = some c → p c = false) :
    (str u).extract 0 K = str ((u.take m).takeWhile p) := by
  have hm : K ≤ m := by have := hx.2; rw [List.length_take] at this; omega
  rw [takeWhile_stop (u.take m) K (by omega) (fun j c hj hc => ?_) h2, List.take_take, Nat.min_eq_left hm, str_take]
  rw [List.getElem?_take] at hc
  split at hc
  · exact h1 j c hj hc
  · cases hc

set_option maxHeartbeats 1000000 in
theorem beginName_any (u : Bs) (m : Nat) (w : World) (hl : u.length ≤ 9223372036854775807) (hm : m ≤ 9223372036854775807) :
    Calls Tryd.prog 82 #[sv u, .int .i64 (m : Int), .func (.func 83) #[] #[]] w fun e w' => e = .returned (sv ((u.take m).takeWhile idc)) ∧ w = w' := by
  have hsz : (str u).size = u.length := str_size u
  obtain ⟨M, hM⟩ : ∃ M, min m u.length = M := ⟨_, rfl⟩
  have hMI : min (m : Int) (u.length : Int) = (M : Int) := by omega
  have HX := Lib.hid (show M ≤ u.length ∧ (u.take m).length = M by rw [List.length_take]; omega)
  have HB := Lib.hid (show M ≤ 9223372036854775807 by omega)
  unfold sv
  clear hM
  go_enter Tryd.func82, Tryd.ntmps82
  go_wp2_with fail
  go_loopw [7] (fun k wr => ∃ (K : Nat), k = .int .i64 (K : Int) ∧ K ≤ M ∧ w = wr ∧ Hid (∀ j c, j < K → u[j]? = some c → idc c = true)) (fun k _ => M - (intOf k).toNat)
  case atStart => exact ⟨0, rfl, Nat.zero_le _, rfl, Lib.hid (fun j c h => absurd h (Nat.not_lt_zero _))⟩
  case round =>
    obtain ⟨K, rfl, hK, rfl, HP⟩ := hrel
    by_cases hlt : K < M
    · obtain ⟨c, hc⟩ : ∃ c, u[K]? = some c := ⟨_, List.getElem?_eq_getElem (by have := HX.out.1; omega)⟩
      have HC := Lib.hid hc
      have hk : K < (str u).size := by rw [hsz]; have := HX.out.1; omega
      have hg : (str u)[K]'hk = c := by rw [str_get]; exact (List.getElem?_eq_some_iff.1 hc).2
      have hltI : (K : Int) < (M : Int) := by omega
      have hltL : (K : Int) < (u.length : Int) := by have := HX.out.1; omega
      have hwK : IntKind.i64.wrap ((K : Int) + 1) = (K : Int) + 1 := IntWalk.i64_in _ (by have := HB.out; omega)
      have HS := Lib.hid (fun W => ofName_any c W)
      clear hc
      cases hp : idc c with
      | true =>
        have HPC := Lib.hid hp
        rw [hp] at HS
        clear hp
        go_wp2_with (go_at_call 83; refine (HS.out _).mono ?_; rintro _ w1 ⟨rfl, rfl⟩)
        go_roundw
        case rel =>
          refine ⟨K + 1, by go_num, by omega, trivial, Lib.hid (fun j d hj hd => ?_)⟩
          rcases Nat.lt_succ_iff_lt_or_eq.1 hj with h | rfl
          · exact HP.out j d h hd
          · rw [HC.out] at hd; cases hd; exact HPC.out
        case measure => simp [intOf]; omega
      | false =>
        have HPC := Lib.hid hp
        rw [hp] at HS
        clear hp
        go_wp2_with (go_at_call 83; refine (HS.out _).mono ?_; rintro _ w1 ⟨rfl, rfl⟩)
        go_ret
        exact ⟨ret_str (begin_end u m M K HX.out hK HP.out (fun d hd => by
          rw [List.getElem?_take] at hd
          split at hd
          · rw [HC.out] at hd; cases hd; exact HPC.out
          · cases hd)), rfl⟩
    · have hltI : ¬ (K : Int) < (M : Int) := by omega
      obtain rfl : K = M := by omega
      go_wp2_with fail
      go_ret
      exact ⟨ret_str (begin_end u m K K HX.out hK HP.out (fun d hd => by rw [List.getElem?_eq_none (by rw [HX.out.2]; exact Nat.le_refl _)] at hd; cases hd)), rfl⟩

set_option maxHeartbeats 1000000 in
theorem beginDigit_any (u : Bs) (m : Nat) (w : World) (hl : u.length ≤ 9223372036854775807) (hm : m ≤ 9223372036854775807) :
    Calls Tryd.prog 82 #[sv u, .int .i64 (m : Int), .func (.func 84) #[] #[]] w fun e w' => e = .returned (sv ((u.take m).takeWhile digit)) ∧ w = w' := by
  have hsz : (str u).size = u.length := str_size u
  obtain ⟨M, hM⟩ : ∃ M, min m u.length = M := ⟨_, rfl⟩
  have hMI : min (m : Int) (u.length : Int) = (M : Int) := by omega
  have HX := Lib.hid (show M ≤ u.length ∧ (u.take m).length = M by rw [List.length_take]; omega)
  have HB := Lib.hid (show M ≤ 9223372036854775807 by omega)
  unfold sv
  clear hM
  go_enter Tryd.func82, Tryd.ntmps82
  go_wp2_with fail
  go_loopw [7] (fun k wr => ∃ (K : Nat), k = .int .i64 (K : Int) ∧ K ≤ M ∧ w = wr ∧ Hid (∀ j c, j < K → u[j]? = some c → digit c = true)) (fun k _ => M - (intOf k).toNat)
  case atStart => exact ⟨0, rfl, Nat.zero_le _, rfl, Lib.hid (fun j c h => absurd h (Nat.not_lt_zero _))⟩
  case round =>
    obtain ⟨K, rfl, hK, rfl, HP⟩ := hrel
    by_cases hlt : K < M
    · obtain ⟨c, hc⟩ : ∃ c, u[K]? = some c := ⟨_, List.getElem?_eq_getElem (by have := HX.out.1; omega)⟩
      have HC := Lib.hid hc
      have hk : K < (str u).size := by rw [hsz]; have := HX.out.1; omega
      have hg : (str u)[K]'hk = c := by rw [str_get]; exact (List.getElem?_eq_some_iff.1 hc).2
      have hltI : (K : Int) < (M : Int) := by omega
      have hltL : (K : Int) < (u.length : Int) := by have := HX.out.1; omega
      have hwK : IntKind.i64.wrap ((K : Int) + 1) = (K : Int) + 1 := IntWalk.i64_in _ (by have := HB.out; omega)
      have HS := Lib.hid (fun W => isDigit_any c W)
      clear hc
      cases hp : digit c with
      | true =>
        have HPC := Lib.hid hp
        rw [hp] at HS
        clear hp
        go_wp2_with (go_at_call 84; refine (HS.out _).mono ?_; rintro _ w1 ⟨rfl, rfl⟩)
        go_roundw
        case rel =>
          refine ⟨K + 1, by go_num, by omega, trivial, Lib.hid (fun j d hj hd => ?_)⟩
          rcases Nat.lt_succ_iff_lt_or_eq.1 hj with h | rfl
          · exact HP.out j d h hd
          · rw [HC.out] at hd; cases hd; exact HPC.out
        case measure => simp [intOf]; omega
      | false =>
        have HPC := Lib.hid hp
        rw [hp] at HS
        clear hp
        go_wp2_with (go_at_call 84; refine (HS.out _).mono ?_; rintro _ w1 ⟨rfl, rfl⟩)
        go_ret
        exact ⟨ret_str (begin_end u m M K HX.out hK HP.out (fun d hd => by
          rw [List.getElem?_take] at hd
          split at hd
          · rw [HC.out] at hd; cases hd; exact HPC.out
          · cases hd)), rfl⟩
    · have hltI : ¬ (K : Int) < (M : Int) := by omega
      obtain rfl : K = M := by omega
      go_wp2_with fail
      go_ret
      exact ⟨ret_str (begin_end u m K K HX.out hK HP.out (fun d hd => by rw [List.getElem?_eq_none (by rw [HX.out.2]; exact Nat.le_refl _)] at hd; cases hd)), rfl⟩

end Go.Proofs.YtfcdkjhabdpijaaDoor.I
