/-
  What the program calls of the library at this dump: each one application of the shelf's own theorem.
  Contracts of the program of layer 4: letters, digits, how far a word goes.
  Contracts of the program of layer 4: the longest sign, the instructions that are called.
  Contracts of the program of layer 4: the word at a place; names.
  Contract of the program of layer 4: Name.
-/
import Derived.Shelf.Strings.OnBuilder
import Derived.Shelf.Small.Strs
import Derived.Shelf.LaysM
import Derived.Shelf.Strings.Prefix
import Derived.Shelf.Slices.Turned
import Derived.Test.YtgkniocjlkfhmaaDoorProg
import Derived.Test.YtgkniocjlkfhmaaDoorSVb
import Derived.Deep.QuietTactic
import Derived.Laws.Rows
namespace Go.Proofs.YtgkniocjlkfhmaaDoor.S
open Go.Shelf Go.Proofs
def lays137_ren : Go.Shelf.Ren := ⟨fun | 137 => 92 | 217 => 94 | 266 => 96 | n => n, fun | 9 => 9 | 5 => 5 | 3 => 3 | n => n, fun | n => n⟩
theorem lays137 : Go.Proofs.Lays.n137 Tryd.prog lays137_ren := {
  mixed := by kernel_rfl
  f137 := Tryd.func92.trans (congrArg some (by kernel_rfl))
  f217 := Tryd.func94.trans (congrArg some (by kernel_rfl))
  f266 := Tryd.func96.trans (congrArg some (by kernel_rfl))
  t3 := Tryd.underlying3
  a3 := Tryd.isAgg3
  z3 := Tryd.sizeOf3
  v3 := Tryd.zeroValue3
  t5 := Tryd.underlying5
  a5 := Tryd.isAgg5
  z5 := Tryd.sizeOf5
  v5 := Tryd.zeroValue5
  t9 := Tryd.underlying9
  a9 := Tryd.isAgg9
  z9 := Tryd.sizeOf9
  v9 := Tryd.zeroValue9 }
open Go.RowKit in
theorem strings_IndexByte (s : ByteArray) (c : Int) (w : World) :
    Calls Tryd.prog 92 #[.string s, .int .u8 c] w fun e w' => e = .returned (.int .i64 (Lib.indexByte s.data.toList c.toNat.toUInt8)) ∧ w' = w := Any.strings_IndexByte lays137 s c w
def lays99_ren : Go.Shelf.Ren := ⟨fun | 99 => 95 | 206 => 97 | n => n, fun | 9 => 9 | 4 => 4 | 3 => 3 | n => n, fun | n => n⟩
theorem lays99 : Go.Proofs.Lays.n99 Tryd.prog lays99_ren := {
  mixed := by kernel_rfl
  f99 := Tryd.func95.trans (congrArg some (by kernel_rfl))
  f206 := Tryd.func97.trans (congrArg some (by kernel_rfl))
  t3 := Tryd.underlying3
  a3 := Tryd.isAgg3
  z3 := Tryd.sizeOf3
  v3 := Tryd.zeroValue3
  t4 := Tryd.underlying4
  a4 := Tryd.isAgg4
  z4 := Tryd.sizeOf4
  v4 := Tryd.zeroValue4
  t9 := Tryd.underlying9
  a9 := Tryd.isAgg9
  z9 := Tryd.sizeOf9
  v9 := Tryd.zeroValue9 }
open Go.RowKit Go.Lib in
theorem strings_HasPrefix (s p : ByteArray) (w : World) :
    Calls Tryd.prog 95 #[.string s, .string p] w fun e w' => e = .returned (.bool (Lib.hasPrefix s.data.toList p.data.toList)) ∧ w' = w := Any.strings_HasPrefix lays99 s p w
def lays109_ren : Go.Shelf.Ren := ⟨fun | 109 => 61 | n => n, fun | 31 => 34 | 9 => 9 | 3 => 3 | 0 => 0 | 4 => 4 | n => n, fun | n => n⟩
theorem lays109 : Go.Proofs.Lays.n109 Tryd.prog lays109_ren := {
  mixed := by kernel_rfl
  f109 := Tryd.func61.trans (congrArg some (by kernel_rfl))
  t0 := Tryd.underlying0
  a0 := Tryd.isAgg0
  z0 := Tryd.sizeOf0
  v0 := Tryd.zeroValue0
  t3 := Tryd.underlying3
  a3 := Tryd.isAgg3
  z3 := Tryd.sizeOf3
  v3 := Tryd.zeroValue3
  t4 := Tryd.underlying4
  a4 := Tryd.isAgg4
  z4 := Tryd.sizeOf4
  v4 := Tryd.zeroValue4
  t9 := Tryd.underlying9
  a9 := Tryd.isAgg9
  z9 := Tryd.sizeOf9
  v9 := Tryd.zeroValue9
  t31 := Tryd.underlying34
  a31 := Tryd.isAgg34
  z31 := Tryd.sizeOf34
  v31 := Tryd.zeroValue34 }
open Go.Lib in
theorem slices_Index_string (b off n c : Nat) (zs : List ByteArray) (x : ByteArray) (w : World) (hz : n ≤ zs.length) (hbig : n ≤ 9223372036854775807) (hc : ∀ j, j < zs.length → w.cell? ⟨b, off + j, none⟩ = some (.string (zs.getD j ByteArray.empty))) :
    Calls Tryd.prog 61 #[.slice (some ⟨b, off, none⟩) n c, .string x] w fun e w' => e = .returned (.int .i64 (Lib.idxOfS (zs.take n) x)) ∧ w' = w := Any.slices_Index_string lays109 b off n c zs x w hz hbig hc
open Go.Lib in
theorem slices_Index_string_empty (a : Option Addr) (c : Nat) (x : ByteArray) (w : World) :
    Calls Tryd.prog 61 #[.slice a 0 c, .string x] w fun e w' => e = .returned (.int .i64 (Lib.idxOfS [] x)) ∧ w' = w := Any.slices_Index_string_empty lays109 a c x w
end Go.Proofs.YtgkniocjlkfhmaaDoor.S

namespace Go.Proofs.YtgkniocjlkfhmaaDoor.I
open Go Go.RowKit Go.Proofs.YtgkniocjlkfhmaaDoor.B Go.Proofs.YtgkniocjlkfhmaaDoor.K Go.Proofs.YtgkniocjlkfhmaaDoor.E
set_option linter.unusedVariables false

set_option maxHeartbeats 400000 in
theorem isLetter_any (c : UInt8) (w : World) : Calls Tryd.prog 81 #[.int .u8 (c.toNat : Int)] w fun e w' => e = .returned (.bool (letter c)) ∧ w = w' := by
  obtain ⟨n, hn⟩ : ∃ n, c.toNat = n := ⟨_, rfl⟩
  have hv : letter c = decide (97 ≤ n ∧ n ≤ 122) := by unfold letter; rw [hn]
  rw [hv, hn]
  clear hv hn
  by_cases h1 : 97 ≤ n
  · have hd : decide (97 ≤ n ∧ n ≤ 122) = decide (n ≤ 122) := by (rw [Bool.eq_iff_iff]; simp [h1])
    have h1' : 97 ≤ (n : Int) := by omega
    rw [hd]
    clear hd
    go_enter Tryd.func81, Tryd.ntmps81
    go_wp2_with fail
    go_ret
    exact ⟨ret_bool (by (rw [Bool.eq_iff_iff]; simp <;> omega)), rfl⟩
  · have hd : decide (97 ≤ n ∧ n ≤ 122) = false := decide_eq_false (by omega)
    have b1 : decide (97 ≤ (n : Int)) = false := decide_eq_false (by omega)
    rw [hd]
    clear hd h1
    go_enter Tryd.func81, Tryd.ntmps81
    go_wp2_with fail
    go_ret
    exact ⟨rfl, rfl⟩

set_option maxHeartbeats 400000 in
theorem isDigit_any (c : UInt8) (w : World) : Calls Tryd.prog 91 #[.int .u8 (c.toNat : Int)] w fun e w' => e = .returned (.bool (digit c)) ∧ w = w' := by
  obtain ⟨n, hn⟩ : ∃ n, c.toNat = n := ⟨_, rfl⟩
  have hv : digit c = decide (48 ≤ n ∧ n ≤ 57) := by unfold digit; rw [hn]
  rw [hv, hn]
  clear hv hn
  by_cases h1 : 48 ≤ n
  · have hd : decide (48 ≤ n ∧ n ≤ 57) = decide (n ≤ 57) := by (rw [Bool.eq_iff_iff]; simp [h1])
    have h1' : 48 ≤ (n : Int) := by omega
    rw [hd]
    clear hd
    go_enter Tryd.func91, Tryd.ntmps91
    go_wp2_with fail
    go_ret
    exact ⟨ret_bool (by (rw [Bool.eq_iff_iff]; simp <;> omega)), rfl⟩
  · have hd : decide (48 ≤ n ∧ n ≤ 57) = false := decide_eq_false (by omega)
    have b1 : decide (48 ≤ (n : Int)) = false := decide_eq_false (by omega)
    rw [hd]
    clear hd h1
    go_enter Tryd.func91, Tryd.ntmps91
    go_wp2_with fail
    go_ret
    exact ⟨rfl, rfl⟩

set_option maxHeartbeats 400000 in
theorem ofName_any (c : UInt8) (w : World) : Calls Tryd.prog 90 #[.int .u8 (c.toNat : Int)] w fun e w' => e = .returned (.bool (idc c)) ∧ w = w' := by
  have HL := Lib.hid (fun W => isLetter_any c W)
  have HD := Lib.hid (fun W => isDigit_any c W)
  rw [idc_of]
  have h95 : decide (c = 95) = decide (c.toNat = 95) := by
    rw [Bool.eq_iff_iff]; simp only [decide_eq_true_eq]
    exact ⟨fun h => by rw [h]; rfl, fun h => UInt8.toNat_inj.1 h⟩
  rw [h95]
  obtain ⟨n, hn⟩ : ∃ n, c.toNat = n := ⟨_, rfl⟩
  rw [hn] at HL HD ⊢
  clear h95
  obtain ⟨bl, hbl⟩ : ∃ b, letter c = b := ⟨_, rfl⟩
  obtain ⟨bd, hbd⟩ : ∃ b, digit c = b := ⟨_, rfl⟩
  rw [hbl] at HL ⊢
  rw [hbd] at HD ⊢
  clear hbl hbd hn
  cases bl with
  | true =>
    go_enter Tryd.func90, Tryd.ntmps90
    go_wp2_with (go_at_call 81; refine (HL.out _).mono ?_; rintro _ w1 ⟨rfl, rfl⟩)
    go_ret
    exact ⟨rfl, rfl⟩
  | false =>
    cases bd with
    | true =>
      go_enter Tryd.func90, Tryd.ntmps90
      go_wp2_with (first | (go_at_call 81; refine (HL.out _).mono ?_; rintro _ w1 ⟨rfl, rfl⟩) | (go_at_call 91; refine (HD.out _).mono ?_; rintro _ w1 ⟨rfl, rfl⟩))
      go_ret
      exact ⟨rfl, rfl⟩
    | false =>
      go_enter Tryd.func90, Tryd.ntmps90
      go_wp2_with (first | (go_at_call 81; refine (HL.out _).mono ?_; rintro _ w1 ⟨rfl, rfl⟩) | (go_at_call 91; refine (HD.out _).mono ?_; rintro _ w1 ⟨rfl, rfl⟩))
      go_ret
      exact ⟨ret_bool (by (rw [Bool.eq_iff_iff]; simp <;> omega)), rfl⟩

theorem takeWhile_stop {p : UInt8 → Bool} (l : Bs) (k : Nat) (hk : k ≤ l.length) (h1 : ∀ j c, j < k → l[j]? = some c → p c = true) (h2 : ∀ c, l[k]? = some c → p c = false) : l.takeWhile p = l.take k := by
  induction l generalizing k with
  | nil => simp
  | cons c r ih =>
    cases k with
    | zero =>
      have := h2 c rfl
      rw [List.takeWhile_cons, if_neg (by rw [this]; decide), List.take_zero]
    | succ k =>
      have := h1 0 c (by omega) rfl
      rw [List.takeWhile_cons, if_pos this, List.take_succ_cons, ih k (by simpa using hk) (fun j d hj hd => h1 (j + 1) d (by omega) hd) (fun d hd => h2 d hd)]

theorem begin_end {p : UInt8 → Bool} (u : Bs) (m M K : Nat) (hx : M ≤ u.length ∧ (u.take m).length = M) (hK : K ≤ M) (h1 : ∀ j c, j < K → u[j]? = some c → p c = true) (h2 : ∀ c, (u.take m)[K]? = some c → p c = false) :
    (str u).extract 0 K = str ((u.take m).takeWhile p) := by
  have hm : K ≤ m := by have := hx.2; rw [List.length_take] at this; omega
  rw [takeWhile_stop (u.take m) K (by omega) (fun j c hj hc => ?_) h2, List.take_take, Nat.min_eq_left hm, str_take]
  rw [List.getElem?_take] at hc
  split at hc
  · exact h1 j c hj hc
  · cases hc

set_option maxHeartbeats 1000000 in
theorem beginName_any (u : Bs) (m : Nat) (w : World) (hl : u.length ≤ 9223372036854775807) (hm : m ≤ 9223372036854775807) :
    Calls Tryd.prog 89 #[sv u, .int .i64 (m : Int), .func (.func 90) #[] #[]] w fun e w' => e = .returned (sv ((u.take m).takeWhile idc)) ∧ w = w' := by
  have hsz : (str u).size = u.length := str_size u
  obtain ⟨M, hM⟩ : ∃ M, min m u.length = M := ⟨_, rfl⟩
  have hMI : min (m : Int) (u.length : Int) = (M : Int) := by omega
  have HX := Lib.hid (show M ≤ u.length ∧ (u.take m).length = M by rw [List.length_take]; omega)
  have HB := Lib.hid (show M ≤ 9223372036854775807 by omega)
  unfold sv
  clear hM
  go_enter Tryd.func89, Tryd.ntmps89
  go_wp2_with fail
  go_loopw [7] (fun k wr => ∃ (K : Nat), k = .int .i64 (K : Int) ∧ K ≤ M ∧ w = wr ∧ Hid (∀ j c, j < K → u[j]? = some c → idc c = true)) (fun k _ => M - (intOf k).toNat)
  case atStart => exact ⟨0, rfl, Nat.zero_le _, rfl, Lib.hid (fun j c h => absurd h (Nat.not_lt_zero _))⟩
  case round =>
    obtain ⟨K, rfl, hK, rfl, HP⟩ := hrel
    by_cases hlt : K < M
    · obtain ⟨c, hc⟩ : ∃ c, u[K]? = some c := ⟨_, List.getElem?_eq_getElem (by have := HX.out.1; omega)⟩
      have HC := Lib.hid hc
      have hk : K < (str u).size := by rw [hsz]; have := HX.out.1; omega
      have hg : (str u)[K]'hk = c := by rw [str_get]; exact (List.getElem?_eq_some_iff.1 hc).2
      have hltI : (K : Int) < (M : Int) := by omega
      have hltL : (K : Int) < (u.length : Int) := by have := HX.out.1; omega
      have hwK : IntKind.i64.wrap ((K : Int) + 1) = (K : Int) + 1 := IntWalk.i64_in _ (by have := HB.out; omega)
      have HS := Lib.hid (fun W => ofName_any c W)
      clear hc
      cases hp : idc c with
      | true =>
        have HPC := Lib.hid hp
        rw [hp] at HS
        clear hp
        go_wp2_with (go_at_call 90; refine (HS.out _).mono ?_; rintro _ w1 ⟨rfl, rfl⟩)
        go_roundw
        case rel =>
          refine ⟨K + 1, by go_num, by omega, trivial, Lib.hid (fun j d hj hd => ?_)⟩
          rcases Nat.lt_succ_iff_lt_or_eq.1 hj with h | rfl
          · exact HP.out j d h hd
          · rw [HC.out] at hd; cases hd; exact HPC.out
        case measure => simp [intOf]; omega
      | false =>
        have HPC := Lib.hid hp
        rw [hp] at HS
        clear hp
        go_wp2_with (go_at_call 90; refine (HS.out _).mono ?_; rintro _ w1 ⟨rfl, rfl⟩)
        go_ret
        exact ⟨ret_str (begin_end u m M K HX.out hK HP.out (fun d hd => by
          rw [List.getElem?_take] at hd
          split at hd
          · rw [HC.out] at hd; cases hd; exact HPC.out
          · cases hd)), rfl⟩
    · have hltI : ¬ (K : Int) < (M : Int) := by omega
      obtain rfl : K = M := by omega
      go_wp2_with fail
      go_ret
      exact ⟨ret_str (begin_end u m K K HX.out hK HP.out (fun d hd => by rw [List.getElem?_eq_none (by rw [HX.out.2]; exact Nat.le_refl _)] at hd; cases hd)), rfl⟩

set_option maxHeartbeats 1000000 in
theorem beginDigit_any (u : Bs) (m : Nat) (w : World) (hl : u.length ≤ 9223372036854775807) (hm : m ≤ 9223372036854775807) :
    Calls Tryd.prog 89 #[sv u, .int .i64 (m : Int), .func (.func 91) #[] #[]] w fun e w' => e = .returned (sv ((u.take m).takeWhile digit)) ∧ w = w' := by
  have hsz : (str u).size = u.length := str_size u
  obtain ⟨M, hM⟩ : ∃ M, min m u.length = M := ⟨_, rfl⟩
  have hMI : min (m : Int) (u.length : Int) = (M : Int) := by omega
  have HX := Lib.hid (show M ≤ u.length ∧ (u.take m).length = M by rw [List.length_take]; omega)
  have HB := Lib.hid (show M ≤ 9223372036854775807 by omega)
  unfold sv
  clear hM
  go_enter Tryd.func89, Tryd.ntmps89
  go_wp2_with fail
  go_loopw [7] (fun k wr => ∃ (K : Nat), k = .int .i64 (K : Int) ∧ K ≤ M ∧ w = wr ∧ Hid (∀ j c, j < K → u[j]? = some c → digit c = true)) (fun k _ => M - (intOf k).toNat)
  case atStart => exact ⟨0, rfl, Nat.zero_le _, rfl, Lib.hid (fun j c h => absurd h (Nat.not_lt_zero _))⟩
  case round =>
    obtain ⟨K, rfl, hK, rfl, HP⟩ := hrel
    by_cases hlt : K < M
    · obtain ⟨c, hc⟩ : ∃ c, u[K]? = some c := ⟨_, List.getElem?_eq_getElem (by have := HX.out.1; omega)⟩
      have HC := Lib.hid hc
      have hk : K < (str u).size := by rw [hsz]; have := HX.out.1; omega
      have hg : (str u)[K]'hk = c := by rw [str_get]; exact (List.getElem?_eq_some_iff.1 hc).2
      have hltI : (K : Int) < (M : Int) := by omega
      have hltL : (K : Int) < (u.length : Int) := by have := HX.out.1; omega
      have hwK : IntKind.i64.wrap ((K : Int) + 1) = (K : Int) + 1 := IntWalk.i64_in _ (by have := HB.out; omega)
      have HS := Lib.hid (fun W => isDigit_any c W)
      clear hc
      cases hp : digit c with
      | true =>
        have HPC := Lib.hid hp
        rw [hp] at HS
        clear hp
        go_wp2_with (go_at_call 91; refine (HS.out _).mono ?_; rintro _ w1 ⟨rfl, rfl⟩)
        go_roundw
        case rel =>
          refine ⟨K + 1, by go_num, by omega, trivial, Lib.hid (fun j d hj hd => ?_)⟩
          rcases Nat.lt_succ_iff_lt_or_eq.1 hj with h | rfl
          · exact HP.out j d h hd
          · rw [HC.out] at hd; cases hd; exact HPC.out
        case measure => simp [intOf]; omega
      | false =>
        have HPC := Lib.hid hp
        rw [hp] at HS
        clear hp
        go_wp2_with (go_at_call 91; refine (HS.out _).mono ?_; rintro _ w1 ⟨rfl, rfl⟩)
        go_ret
        exact ⟨ret_str (begin_end u m M K HX.out hK HP.out (fun d hd => by
          rw [List.getElem?_take] at hd
          split at hd
          · rw [HC.out] at hd; cases hd; exact HPC.out
          · cases hd)), rfl⟩
    · have hltI : ¬ (K : Int) < (M : Int) := by omega
      obtain rfl : K = M := by omega
      go_wp2_with fail
      go_ret
      exact ⟨ret_str (begin_end u m K K HX.out hK HP.out (fun d hd => by rw [List.getElem?_eq_none (by rw [HX.out.2]; exact Nat.le_refl _)] at hd; cases hd)), rfl⟩

end Go.Proofs.YtgkniocjlkfhmaaDoor.I

namespace Go.Proofs.YtgkniocjlkfhmaaDoor.I
open Go Go.RowKit Go.Proofs.YtgkniocjlkfhmaaDoor.B Go.Proofs.YtgkniocjlkfhmaaDoor.K Go.Proofs.YtgkniocjlkfhmaaDoor.E
set_option linter.unusedVariables false

/-- The longer sign, if a text begins with it. -/
def better (u l s : Bs) : Bs := if l.length < s.length ∧ s.isPrefixOf u = true then s else l
/-- The longest sign that a text begins with. -/
def sgn (u : Bs) : Bs := signL.foldl (better u) []

theorem signA_get (K : Nat) (l : Bs) (h : signL[K]? = some l) : (signL.map sv).toArray[K]? = some (sv l) := by simp [h]

theorem sgn_step (u : Bs) (K : Nat) (l : Bs) (h : signL[K]? = some l) : (signL.take (K + 1)).foldl (better u) [] = better u ((signL.take K).foldl (better u) []) l := by
  rw [List.take_add_one, h, List.foldl_append]; rfl

theorem better_le (u l s : Bs) (hl : l.length ≤ 3) (hs : s.length ≤ 3) : (better u l s).length ≤ 3 := by unfold better; split <;> assumption
theorem signs_le (K : Nat) (l : Bs) (h : signL[K]? = some l) : l.length ≤ 3 := by
  have : ∀ x ∈ signL, x.length ≤ 3 := by decide
  exact this l (List.mem_of_getElem? h)

theorem run_index_signs {cs : Array Value} {K : Nat} {u : Value} (w : World) (hK : K < 17) (hu : cs[K]? = some u) :
    (Instr.index 133 (.agg cs) (.int .i64 (K : Int))).run Tryd.prog w = .ok u w := by
  have hn : 0 ≤ (K : Int) ∧ (K : Int) < (17 : Nat) := by omega
  simp [Instr.index, run_underlying Tryd.underlying133, asIntOf, hn, go_sem, Tryd.sizeOf9, Tryd.isAgg9, hu]
  intro h
  omega

theorem run_index_three {cs : Array Value} {K : Nat} {u : Value} (w : World) (hK : K < 3) (hu : cs[K]? = some u) :
    (Instr.index 132 (.agg cs) (.int .i64 (K : Int))).run Tryd.prog w = .ok u w := by
  have hn : 0 ≤ (K : Int) ∧ (K : Int) < (3 : Nat) := by omega
  simp [Instr.index, run_underlying Tryd.underlying132, asIntOf, hn, go_sem, Tryd.sizeOf3, Tryd.isAgg3, hu]
  intro h
  omega

set_option maxHeartbeats 1000000 in
set_option maxRecDepth 100000 in
theorem signAt_any (u : Bs) (w : World) (hg : Glob w) (hl : u.length ≤ 9223372036854775807) :
    Calls Tryd.prog 93 #[sv u] w fun e w' => e = .returned (sv (sgn u)) ∧ w = w' := by
  obtain ⟨⟨T, fr, hs⟩⟩ := hg
  have HI := Lib.hid (show (Tryd.prog.info? 133).map (·.size) = some (signL.map sv).toArray.size by kernel_rfl)
  obtain ⟨A, hA⟩ : ∃ A, (signL.map sv).toArray = A := ⟨_, rfl⟩
  have HG := Lib.hid (fun K l h => (hA ▸ signA_get K l h : A[K]? = some (sv l)))
  rw [hA] at hs HI
  clear hA
  have HLen := Lib.hid hl
  clear hl
  unfold sv
  go_enter Tryd.func93, Tryd.ntmps93
  go_wp2_with (refine wpList_load_row rfl 133 _ rfl 0 rfl T A fr _ hs Tryd.underlying133 rfl HI.out ?_)
  go_loopw [3, 7] (fun l k wr => ∃ (K : Nat) (b : Bs), k = .int .i64 (K : Int) ∧ l = .string (str b) ∧ K ≤ 17 ∧ w = wr ∧ Hid (b = (signL.take K).foldl (better u) [])) (fun _ k _ => 17 - (intOf k).toNat)
  case atStart => exact ⟨0, [], rfl, rfl, Nat.zero_le _, rfl, Lib.hid rfl⟩
  case round =>
    obtain ⟨K, b, rfl, rfl, hK, rfl, HB⟩ := hrel
    by_cases hlt : K < 17
    · obtain ⟨l, hl⟩ : ∃ l, signL[K]? = some l := ⟨_, List.getElem?_eq_getElem hlt⟩
      have hAK := HG.out K l hl
      have hltI : (K : Int) < 17 := by omega
      have hwK : IntKind.i64.wrap ((K : Int) + 1) = (K : Int) + 1 := IntWalk.i64_in _ (by omega)
      have HL := Lib.hid hl
      clear hl
      unfold sv at hAK
      have hI := fun W => run_index_signs (cs := A) W hlt hAK
      have hsz : (str l).size = l.length := str_size l
      have hszb : (str b).size = b.length := str_size b
      have hs3 := Lib.hid (signs_le K l HL.out)
      have hstep := Lib.hid (sgn_step u K l HL.out)
      clear hAK
      by_cases hlen : b.length < l.length
      · have hlenI : (b.length : Int) < (l.length : Int) := by omega
        have HP := Lib.hid (fun W => S.strings_HasPrefix (str u) (str l) W)
        rw [str_data, str_data] at HP
        obtain ⟨x, hx⟩ : ∃ x, Lib.hasPrefix u l = x := ⟨_, rfl⟩
        rw [hx] at HP
        have HX := Lib.hid hx
        clear hx
        cases x with
        | true =>
          go_wp2_with (go_at_call 95; refine (HP.out _).mono ?_; rintro _ w1 ⟨rfl, rfl⟩)
          go_roundw
          case rel => exact ⟨K + 1, l, by go_num, rfl, by omega, trivial, Lib.hid (by rw [hstep.out, ← HB.out]; unfold better; rw [if_pos ⟨hlen, HX.out⟩])⟩
          case measure => simp [intOf]; omega
        | false =>
          go_wp2_with (go_at_call 95; refine (HP.out _).mono ?_; rintro _ w1 ⟨rfl, rfl⟩)
          go_roundw
          case rel => exact ⟨K + 1, b, by go_num, rfl, by omega, trivial, Lib.hid (by rw [hstep.out, ← HB.out]; unfold better; rw [if_neg (fun h => by have h2 := h.2; rw [show l.isPrefixOf u = false from HX.out] at h2; cases h2)])⟩
          case measure => simp [intOf]; omega
      · have hlenI : ¬ (b.length : Int) < (l.length : Int) := by omega
        go_wp2_with fail
        go_roundw
        case rel => exact ⟨K + 1, b, by go_num, rfl, by omega, trivial, Lib.hid (by rw [hstep.out, ← HB.out]; unfold better; rw [if_neg (fun h => hlen h.1)])⟩
        case measure => simp [intOf]; omega
    · have hltI : ¬ (K : Int) < 17 := by omega
      obtain rfl : K = 17 := by omega
      go_wp2_with fail
      go_ret
      exact ⟨by rw [HB.out]; rfl, rfl⟩
/-- The instruction that a word calls. -/
def calledOf (s : Bs) : Int := if s = wmin then 9 else if s = wmax then 10 else if s = wif then 16 else 0
def threeW (j : Nat) : Bs := match j with | 0 => wmin | 1 => wmax | _ => wif

theorem three_next {s : Bs} {k : Nat} (h : ∀ j, j < k → s ≠ threeW j) (hk : s ≠ threeW k) : ∀ j, j < k + 1 → s ≠ threeW j := by
  intro j hj
  rcases Nat.lt_succ_iff_lt_or_eq.1 hj with h1 | rfl
  · exact h j h1
  · exact hk

set_option maxHeartbeats 1000000 in
set_option maxRecDepth 100000 in
theorem called_any (s : Bs) (w : World) (hg : Glob w) :
    Calls Tryd.prog 83 #[sv s] w fun e w' => e = .returned (.int .i64 (calledOf s)) ∧ w = w' := by
  have c9 := hg.cell 9 wmin rfl
  have c10 := hg.cell 10 wmax rfl
  have c16 := hg.cell 16 wif rfl
  clear hg
  unfold sv at c9 c10 c16 ⊢
  go_enter Tryd.func83, Tryd.ntmps83
  go_wp2_with fail
  go_loopw [6] (fun k wr => ∃ (K : Nat), k = .int .i64 (K : Int) ∧ K ≤ 3 ∧ w = wr ∧ Hid (∀ j, j < K → s ≠ threeW j)) (fun k _ => 3 - (intOf k).toNat)
  case atStart => exact ⟨0, rfl, Nat.zero_le _, rfl, Lib.hid (fun j h => absurd h (Nat.not_lt_zero _))⟩
  case round =>
    obtain ⟨K, rfl, hK, rfl, HB⟩ := hrel
    rcases (show K = 0 ∨ K = 1 ∨ K = 2 ∨ K = 3 by omega) with rfl | rfl | rfl | rfl
    · have hI : ∀ W, (Instr.index 132 (.agg #[.int .i64 9, .int .i64 10, .int .i64 16]) (.int .i64 0)).run Tryd.prog W = .ok (.int .i64 9) W := fun W => run_index_three (K := 0) W (by decide) rfl
      by_cases he : s = wmin
      · subst he
        have e1 : (str wmin).toList = wmin := str_toList wmin
        go_wp2_with fail
        go_ret
        exact ⟨by first | rfl | decide, rfl⟩
      · have hne : ((str s).toList == (str wmin).toList) = false := by rw [str_toList, str_toList]; exact beq_eq_false_iff_ne.2 he
        have HN := Lib.hid he
        clear he
        go_wp2_with fail
        go_roundw
        case rel => exact ⟨1, rfl, by omega, trivial, Lib.hid (three_next HB.out HN.out)⟩
        case measure => simp [intOf]
    · have hI : ∀ W, (Instr.index 132 (.agg #[.int .i64 9, .int .i64 10, .int .i64 16]) (.int .i64 1)).run Tryd.prog W = .ok (.int .i64 10) W := fun W => run_index_three (K := 1) W (by decide) rfl
      by_cases he : s = wmax
      · subst he
        have e1 : (str wmax).toList = wmax := str_toList wmax
        go_wp2_with fail
        go_ret
        exact ⟨by first | rfl | decide, rfl⟩
      · have hne : ((str s).toList == (str wmax).toList) = false := by rw [str_toList, str_toList]; exact beq_eq_false_iff_ne.2 he
        have HN := Lib.hid he
        clear he
        go_wp2_with fail
        go_roundw
        case rel => exact ⟨2, rfl, by omega, trivial, Lib.hid (three_next HB.out HN.out)⟩
        case measure => simp [intOf]
    · have hI : ∀ W, (Instr.index 132 (.agg #[.int .i64 9, .int .i64 10, .int .i64 16]) (.int .i64 2)).run Tryd.prog W = .ok (.int .i64 16) W := fun W => run_index_three (K := 2) W (by decide) rfl
      by_cases he : s = wif
      · subst he
        have e1 : (str wif).toList = wif := str_toList wif
        go_wp2_with fail
        go_ret
        exact ⟨by first | rfl | decide, rfl⟩
      · have hne : ((str s).toList == (str wif).toList) = false := by rw [str_toList, str_toList]; exact beq_eq_false_iff_ne.2 he
        have HN := Lib.hid he
        clear he
        go_wp2_with fail
        go_roundw
        case rel => exact ⟨3, rfl, by omega, trivial, Lib.hid (three_next HB.out HN.out)⟩
        case measure => simp [intOf]
    · go_wp2_with fail
      go_ret
      refine ⟨?_, rfl⟩
      have e : calledOf s = 0 := by
        unfold calledOf
        rw [if_neg (show ¬ s = wmin from HB.out 0 (by omega)), if_neg (show ¬ s = wmax from HB.out 1 (by omega)), if_neg (show ¬ s = wif from HB.out 2 (by omega))]
      rw [e]; rfl
end Go.Proofs.YtgkniocjlkfhmaaDoor.I

namespace Go.Proofs.YtgkniocjlkfhmaaDoor.I
open Go Go.RowKit Go.Proofs.YtgkniocjlkfhmaaDoor.B Go.Proofs.YtgkniocjlkfhmaaDoor.K Go.Proofs.YtgkniocjlkfhmaaDoor.E
set_option linter.unusedVariables false

/-- Does a digit stand first? -/
def dh : Bs → Bool | d :: _ => digit d | [] => false
/-- The word that a text begins with, as the program has it. -/
def wd (u : Bs) : Bs := match u with
  | [] => []
  | c :: r => if letter c = true then ((c :: r).take 24).takeWhile idc else if digit c = true then (c :: r).takeWhile digit
    else if c = 36 ∧ dh r = true then (c :: r).take 2
    else if c = 40 ∨ c = 41 ∨ c = 44 then [c] else sgn (c :: r)

theorem wd_cons (c : UInt8) (r : Bs) : wd (c :: r) = if letter c = true then ((c :: r).take 24).takeWhile idc else if digit c = true then (c :: r).takeWhile digit
    else if c = 36 ∧ dh r = true then (c :: r).take 2
    else if c = 40 ∨ c = 41 ∨ c = 44 then [c] else sgn (c :: r) := rfl

theorem byte_eq (c : UInt8) (k : Nat) (hk : k < 256) : c = UInt8.ofNat k ↔ c.toNat = k := by
  constructor
  · rintro rfl; rw [UInt8.toNat_ofNat']; omega
  · intro h; rw [← h]; simp

theorem three_index (c : UInt8) : (c = 40 ∨ c = 41 ∨ c = 44) ∧ 0 ≤ Lib.indexByte [40, 41, 44] c ∨ ¬ (c = 40 ∨ c = 41 ∨ c = 44) ∧ Lib.indexByte [40, 41, 44] c = -1 := by
  unfold Lib.indexByte Lib.indexByte Lib.indexByte Lib.indexByte
  by_cases h1 : c = 40
  · subst h1; left; exact ⟨Or.inl rfl, by decide⟩
  by_cases h2 : c = 41
  · subst h2; left; exact ⟨Or.inr (Or.inl rfl), by decide⟩
  by_cases h3 : c = 44
  · subst h3; left; exact ⟨Or.inr (Or.inr rfl), by decide⟩
  right
  refine ⟨by simp [h1, h2, h3], ?_⟩
  have e1 : ((40 : UInt8) == c) = false := beq_eq_false_iff_ne.2 (Ne.symm h1)
  have e2 : ((41 : UInt8) == c) = false := beq_eq_false_iff_ne.2 (Ne.symm h2)
  have e3 : ((44 : UInt8) == c) = false := beq_eq_false_iff_ne.2 (Ne.symm h3)
  simp [e1, e2, e3]

theorem take_two (u : Bs) (c d : UInt8) (h0 : 0 < (str u).size) (h1 : 1 < (str u).size) (e0 : (str u)[0]'h0 = c) (e1 : (str u)[1]'h1 = d) : u.take 2 = [c, d] := by
  rw [str_get] at e0 e1
  rw [str_size] at h1
  cases u with
  | nil => simp at h1
  | cons a r =>
    cases r with
    | nil => simp at h1
    | cons b r' =>
      simp only [List.getElem_cons_zero, List.getElem_cons_succ] at e0 e1
      subst e0; subst e1; rfl

theorem u8_back (c : UInt8) : (c.toNat : Int).toNat.toUInt8 = c := by simp

set_option maxHeartbeats 1000000 in
set_option maxRecDepth 100000 in
theorem wordAt_np (t u : Bs) (at_ n : Nat) (c : UInt8) (w : World) (hg : Glob w) (haI : (at_ : Int) ≤ (t.length : Int)) (hx : (str t).extract at_ t.length = str u) (hn : u.length = n) (h1n : 1 ≤ n) (hl : n ≤ 9223372036854775807)
    (h0 : 0 < (str u).size) (hc0 : (str u)[0]'h0 = c) (hlc : letter c = false) (hdc : digit c = false)
    (h3 : c = 40 ∨ c = 41 ∨ c = 44) (h36 : c ≠ 36) :
    Calls Tryd.prog 82 #[sv t, .int .i64 (at_ : Int)] w fun e w' => e = .returned (sv ([c])) ∧ w = w' := by
  have hsz : (str t).size = t.length := str_size t
  have hszu : (str u).size = n := by rw [str_size, hn]
  have he : (str u).toList.isEmpty = false := by
    rw [str_toList]; cases u with
    | nil => simp at hn; omega
    | cons a b => rfl
  have hpos : (0 : Int) < (n : Int) := by omega
  have HL := Lib.hid (fun W => isLetter_any c W)
  have HD := Lib.hid (fun W => isDigit_any c W)
  have HG := Lib.hid hg
  rw [hlc] at HL
  rw [hdc] at HD
  have hb36 : ((c.toNat : Int) == 36) = false := by
    rw [beq_eq_false_iff_ne]; intro h; exact h36 ((byte_eq c 36 (by decide)).2 (by omega))
  clear h36
  have HI := Lib.hid (fun W => S.strings_IndexByte ⟨#[40, 41, 44]⟩ (c.toNat : Int) W)
  rw [u8_back] at HI
  obtain ⟨ix, hix⟩ : ∃ ix, Lib.indexByte [40, 41, 44] c = ix := ⟨_, rfl⟩
  rw [show (⟨#[40, 41, 44]⟩ : ByteArray).data.toList = [40, 41, 44] from rfl, hix] at HI
  have h3i := (three_index c)
  rw [hix] at h3i
  replace h3i : 0 ≤ ix := by rcases h3i with h | h; exact h.2; exact absurd h3 h.1
  have h1x : (str u).extract 0 1 = str [c] := by
    rw [str_take]; rw [str_get] at hc0; cases u with
    | nil => simp at hn; omega
    | cons a b => cases hc0; rfl
  have h1l : (1 : Int) ≤ (n : Int) := by omega
  unfold sv
  clear hix h3 hlc hdc hn hl hg h1n
  go_enter Tryd.func82, Tryd.ntmps82
  go_wp2_with (first | (go_at_call 81; refine (HL.out _).mono ?_; rintro _ w1 ⟨rfl, rfl⟩) | (go_at_call 91; refine (HD.out _).mono ?_; rintro _ w1 ⟨rfl, rfl⟩) | (go_at_call 92; refine (HI.out _).mono ?_; rintro _ w1 ⟨rfl, rfl⟩))
  go_ret
  exact ⟨rfl, rfl⟩

set_option maxHeartbeats 1000000 in
set_option maxRecDepth 100000 in
theorem wordAt_ns (t u : Bs) (at_ n : Nat) (c : UInt8) (w : World) (hg : Glob w) (haI : (at_ : Int) ≤ (t.length : Int)) (hx : (str t).extract at_ t.length = str u) (hn : u.length = n) (h1n : 1 ≤ n) (hl : n ≤ 9223372036854775807)
    (h0 : 0 < (str u).size) (hc0 : (str u)[0]'h0 = c) (hlc : letter c = false) (hdc : digit c = false)
    (h3 : ¬ (c = 40 ∨ c = 41 ∨ c = 44)) (h36 : c ≠ 36) :
    Calls Tryd.prog 82 #[sv t, .int .i64 (at_ : Int)] w fun e w' => e = .returned (sv (sgn u)) ∧ w = w' := by
  have hsz : (str t).size = t.length := str_size t
  have hszu : (str u).size = n := by rw [str_size, hn]
  have he : (str u).toList.isEmpty = false := by
    rw [str_toList]; cases u with
    | nil => simp at hn; omega
    | cons a b => rfl
  have hpos : (0 : Int) < (n : Int) := by omega
  have HL := Lib.hid (fun W => isLetter_any c W)
  have HD := Lib.hid (fun W => isDigit_any c W)
  have HG := Lib.hid hg
  rw [hlc] at HL
  rw [hdc] at HD
  have hb36 : ((c.toNat : Int) == 36) = false := by
    rw [beq_eq_false_iff_ne]; intro h; exact h36 ((byte_eq c 36 (by decide)).2 (by omega))
  clear h36
  have HI := Lib.hid (fun W => S.strings_IndexByte ⟨#[40, 41, 44]⟩ (c.toNat : Int) W)
  rw [u8_back] at HI
  obtain ⟨ix, hix⟩ : ∃ ix, Lib.indexByte [40, 41, 44] c = ix := ⟨_, rfl⟩
  rw [show (⟨#[40, 41, 44]⟩ : ByteArray).data.toList = [40, 41, 44] from rfl, hix] at HI
  have h3i := (three_index c)
  rw [hix] at h3i
  replace h3i : ix = -1 := by rcases h3i with h | h; exact absurd h.1 h3; exact h.2
  subst h3i
  have HS := Lib.hid (fun W hW => signAt_any u W hW (by rw [hn]; exact hl))
  unfold sv at HS ⊢
  clear hix h3 hlc hdc hn hl hg h1n
  go_enter Tryd.func82, Tryd.ntmps82
  go_wp2_with (first | (go_at_call 81; refine (HL.out _).mono ?_; rintro _ w1 ⟨rfl, rfl⟩) | (go_at_call 91; refine (HD.out _).mono ?_; rintro _ w1 ⟨rfl, rfl⟩) | (go_at_call 92; refine (HI.out _).mono ?_; rintro _ w1 ⟨rfl, rfl⟩) | (go_at_call 93; refine (HS.out _ HG.out).mono ?_; rintro _ w1 ⟨rfl, rfl⟩))
  go_ret
  exact ⟨rfl, rfl⟩

set_option maxHeartbeats 1000000 in
set_option maxRecDepth 100000 in
theorem wordAt_es (t u : Bs) (at_ n : Nat) (c : UInt8) (w : World) (hg : Glob w) (haI : (at_ : Int) ≤ (t.length : Int)) (hx : (str t).extract at_ t.length = str u) (hn : u.length = n) (h1n : 1 ≤ n) (hl : n ≤ 9223372036854775807)
    (h0 : 0 < (str u).size) (hc0 : (str u)[0]'h0 = c) (hlc : letter c = false) (hdc : digit c = false)
    (h3 : ¬ (c = 40 ∨ c = 41 ∨ c = 44)) (h36 : c = 36) (h1 : n = 1) :
    Calls Tryd.prog 82 #[sv t, .int .i64 (at_ : Int)] w fun e w' => e = .returned (sv (sgn u)) ∧ w = w' := by
  have hsz : (str t).size = t.length := str_size t
  have hszu : (str u).size = n := by rw [str_size, hn]
  have he : (str u).toList.isEmpty = false := by
    rw [str_toList]; cases u with
    | nil => simp at hn; omega
    | cons a b => rfl
  have hpos : (0 : Int) < (n : Int) := by omega
  have HL := Lib.hid (fun W => isLetter_any c W)
  have HD := Lib.hid (fun W => isDigit_any c W)
  have HG := Lib.hid hg
  rw [hlc] at HL
  rw [hdc] at HD
  have hb36 : ((c.toNat : Int) == 36) = true := by rw [h36]; rfl
  have hd1 : decide ((1 : Int) < (n : Int)) = false := decide_eq_false (by omega)
  clear h36 h1
  have HI := Lib.hid (fun W => S.strings_IndexByte ⟨#[40, 41, 44]⟩ (c.toNat : Int) W)
  rw [u8_back] at HI
  obtain ⟨ix, hix⟩ : ∃ ix, Lib.indexByte [40, 41, 44] c = ix := ⟨_, rfl⟩
  rw [show (⟨#[40, 41, 44]⟩ : ByteArray).data.toList = [40, 41, 44] from rfl, hix] at HI
  have h3i := (three_index c)
  rw [hix] at h3i
  replace h3i : ix = -1 := by rcases h3i with h | h; exact absurd h.1 h3; exact h.2
  subst h3i
  have HS := Lib.hid (fun W hW => signAt_any u W hW (by rw [hn]; exact hl))
  unfold sv at HS ⊢
  clear hix h3 hlc hdc hn hl hg h1n
  go_enter Tryd.func82, Tryd.ntmps82
  go_wp2_with (first | (go_at_call 81; refine (HL.out _).mono ?_; rintro _ w1 ⟨rfl, rfl⟩) | (go_at_call 91; refine (HD.out _).mono ?_; rintro _ w1 ⟨rfl, rfl⟩) | (go_at_call 92; refine (HI.out _).mono ?_; rintro _ w1 ⟨rfl, rfl⟩) | (go_at_call 93; refine (HS.out _ HG.out).mono ?_; rintro _ w1 ⟨rfl, rfl⟩))
  go_ret
  exact ⟨rfl, rfl⟩

set_option maxHeartbeats 1000000 in
set_option maxRecDepth 100000 in
theorem wordAt_ds (t u : Bs) (at_ n : Nat) (c : UInt8) (w : World) (hg : Glob w) (haI : (at_ : Int) ≤ (t.length : Int)) (hx : (str t).extract at_ t.length = str u) (hn : u.length = n) (h1n : 1 ≤ n) (hl : n ≤ 9223372036854775807)
    (h0 : 0 < (str u).size) (hc0 : (str u)[0]'h0 = c) (hlc : letter c = false) (hdc : digit c = false)
    (h3 : ¬ (c = 40 ∨ c = 41 ∨ c = 44)) (h36 : c = 36) (h1 : 1 < n) (d : UInt8) (h1s : 1 < (str u).size) (hc1 : (str u)[1]'h1s = d) (hdd : digit d = false) :
    Calls Tryd.prog 82 #[sv t, .int .i64 (at_ : Int)] w fun e w' => e = .returned (sv (sgn u)) ∧ w = w' := by
  have hsz : (str t).size = t.length := str_size t
  have hszu : (str u).size = n := by rw [str_size, hn]
  have he : (str u).toList.isEmpty = false := by
    rw [str_toList]; cases u with
    | nil => simp at hn; omega
    | cons a b => rfl
  have hpos : (0 : Int) < (n : Int) := by omega
  have HL := Lib.hid (fun W => isLetter_any c W)
  have HD := Lib.hid (fun W => isDigit_any c W)
  have HG := Lib.hid hg
  rw [hlc] at HL
  rw [hdc] at HD
  have hb36 : ((c.toNat : Int) == 36) = true := by rw [h36]; rfl
  have hd1 : (1 : Int) < (n : Int) := by omega
  have HDD := Lib.hid (fun W => isDigit_any d W)
  rw [hdd] at HDD
  clear h36 h1 hdd
  have HI := Lib.hid (fun W => S.strings_IndexByte ⟨#[40, 41, 44]⟩ (c.toNat : Int) W)
  rw [u8_back] at HI
  obtain ⟨ix, hix⟩ : ∃ ix, Lib.indexByte [40, 41, 44] c = ix := ⟨_, rfl⟩
  rw [show (⟨#[40, 41, 44]⟩ : ByteArray).data.toList = [40, 41, 44] from rfl, hix] at HI
  have h3i := (three_index c)
  rw [hix] at h3i
  replace h3i : ix = -1 := by rcases h3i with h | h; exact absurd h.1 h3; exact h.2
  subst h3i
  have HS := Lib.hid (fun W hW => signAt_any u W hW (by rw [hn]; exact hl))
  unfold sv at HS ⊢
  clear hix h3 hlc hdc hn hl hg h1n
  go_enter Tryd.func82, Tryd.ntmps82
  go_wp2_with (first | (go_at_call 81; refine (HL.out _).mono ?_; rintro _ w1 ⟨rfl, rfl⟩) | (go_at_call 91; first | (refine (HD.out _).mono ?_; rintro _ w1 ⟨rfl, rfl⟩) | (refine (HDD.out _).mono ?_; rintro _ w1 ⟨rfl, rfl⟩)) | (go_at_call 92; refine (HI.out _).mono ?_; rintro _ w1 ⟨rfl, rfl⟩) | (go_at_call 93; refine (HS.out _ HG.out).mono ?_; rintro _ w1 ⟨rfl, rfl⟩))
  go_ret
  exact ⟨rfl, rfl⟩

set_option maxHeartbeats 1000000 in
set_option maxRecDepth 100000 in
theorem wordAt_arg (t u : Bs) (at_ n : Nat) (c : UInt8) (w : World) (hg : Glob w) (haI : (at_ : Int) ≤ (t.length : Int)) (hx : (str t).extract at_ t.length = str u) (hn : u.length = n) (h1n : 1 ≤ n) (hl : n ≤ 9223372036854775807)
    (h0 : 0 < (str u).size) (hc0 : (str u)[0]'h0 = c) (hlc : letter c = false) (hdc : digit c = false)
    (h36 : c = 36) (h1 : 1 < n) (d : UInt8) (h1s : 1 < (str u).size) (hc1 : (str u)[1]'h1s = d) (hdd : digit d = true) :
    Calls Tryd.prog 82 #[sv t, .int .i64 (at_ : Int)] w fun e w' => e = .returned (sv [c, d]) ∧ w = w' := by
  have hsz : (str t).size = t.length := str_size t
  have hszu : (str u).size = n := by rw [str_size, hn]
  have he : (str u).toList.isEmpty = false := by
    rw [str_toList]; cases u with
    | nil => simp at hn; omega
    | cons a b => rfl
  have hpos : (0 : Int) < (n : Int) := by omega
  have HL := Lib.hid (fun W => isLetter_any c W)
  have HD := Lib.hid (fun W => isDigit_any c W)
  have HG := Lib.hid hg
  rw [hlc] at HL
  rw [hdc] at HD
  have hb36 : ((c.toNat : Int) == 36) = true := by rw [h36]; rfl
  have hd1 : (1 : Int) < (n : Int) := by omega
  have HDD := Lib.hid (fun W => isDigit_any d W)
  rw [hdd] at HDD
  have h2x : (str u).extract 0 2 = str [c, d] := by
    rw [str_take, take_two u c d h0 h1s hc0 hc1]
  have h2l : (2 : Int) ≤ (n : Int) := by omega
  unfold sv
  clear hlc hdc hn hl hg h1n h36 h1 hdd
  go_enter Tryd.func82, Tryd.ntmps82
  go_wp2_with (first | (go_at_call 81; refine (HL.out _).mono ?_; rintro _ w1 ⟨rfl, rfl⟩) | (go_at_call 91; first | (refine (HD.out _).mono ?_; rintro _ w1 ⟨rfl, rfl⟩) | (refine (HDD.out _).mono ?_; rintro _ w1 ⟨rfl, rfl⟩)))
  go_ret
  exact ⟨rfl, rfl⟩

set_option maxHeartbeats 1000000 in
set_option maxRecDepth 100000 in
theorem wordAt_any (t u : Bs) (at_ : Nat) (w : World) (hg : Glob w) (ha : at_ ≤ t.length) (hu : t.drop at_ = u) (hl : t.length ≤ 9223372036854775807) :
    Calls Tryd.prog 82 #[sv t, .int .i64 (at_ : Int)] w fun e w' => e = .returned (sv (wd u)) ∧ w = w' := by
  have hsz : (str t).size = t.length := str_size t
  have hlu : u.length ≤ 9223372036854775807 := by rw [← hu, List.length_drop]; omega
  have hx : (str t).extract at_ t.length = str u := by rw [str_extract, hu, List.take_of_length_le (by rw [← hu, List.length_drop]; exact Nat.le_refl _)]
  have hszu : (str u).size = u.length := str_size u
  have HG := Lib.hid hg
  have HLU := Lib.hid hlu
  have haI : (at_ : Int) ≤ (t.length : Int) := by omega
  clear hl hlu hg hu
  match u with
  | [] =>
    have he : (str []).toList.isEmpty = true := by rw [str_toList]; rfl
    unfold sv
    go_enter Tryd.func82, Tryd.ntmps82
    go_wp2_with fail
    go_ret
    exact ⟨rfl, rfl⟩
  | c :: r =>
    have he : (str (c :: r)).toList.isEmpty = false := by rw [str_toList]; rfl
    have h0 : 0 < (str (c :: r)).size := by rw [str_size]; simp
    have hc0 : (str (c :: r))[0]'h0 = c := by rw [str_get]; rfl
    have hpos : (0 : Int) < ((c :: r).length : Int) := by simp
    have HL := Lib.hid (fun W => isLetter_any c W)
    have HD := Lib.hid (fun W => isDigit_any c W)
    cases hlc : letter c with
    | true =>
      have HB := Lib.hid (fun W => beginName_any (c :: r) 24 W HLU.out (by decide))
      have hw : wd (c :: r) = ((c :: r).take 24).takeWhile idc := by rw [wd_cons, if_pos hlc]
      rw [hw]
      rw [hlc] at HL
      unfold sv at HB ⊢
      clear hlc hw HD
      go_enter Tryd.func82, Tryd.ntmps82
      go_wp2_with (first | (go_at_call 81; refine (HL.out _).mono ?_; rintro _ w1 ⟨rfl, rfl⟩) | (go_at_call 89; refine (HB.out _).mono ?_; rintro _ w1 ⟨rfl, rfl⟩))
      go_ret
      exact ⟨rfl, rfl⟩
    | false =>
      rw [hlc] at HL
      cases hdc : digit c with
      | true =>
        have HB := Lib.hid (fun W => beginDigit_any (c :: r) (c :: r).length W HLU.out HLU.out)
        have hw : wd (c :: r) = (c :: r).takeWhile digit := by rw [wd_cons, if_neg (by rw [hlc]; decide), if_pos hdc]
        rw [hw]
        rw [List.take_length] at HB
        rw [hdc] at HD
        unfold sv at HB ⊢
        clear hlc hdc hw
        go_enter Tryd.func82, Tryd.ntmps82
        go_wp2_with (first | (go_at_call 81; refine (HL.out _).mono ?_; rintro _ w1 ⟨rfl, rfl⟩) | (go_at_call 91; refine (HD.out _).mono ?_; rintro _ w1 ⟨rfl, rfl⟩) | (go_at_call 89; refine (HB.out _).mono ?_; rintro _ w1 ⟨rfl, rfl⟩))
        go_ret
        exact ⟨rfl, rfl⟩
      | false =>
        rw [hdc] at HD
        have hw0 : wd (c :: r) = if c = 36 ∧ dh r = true then (c :: r).take 2 else if c = 40 ∨ c = 41 ∨ c = 44 then [c] else sgn (c :: r) := by
          rw [wd_cons, if_neg (by rw [hlc]; decide), if_neg (by rw [hdc]; decide)]
        clear HL HD he hpos
        by_cases h3 : c = 40 ∨ c = 41 ∨ c = 44
        · have h36 : c ≠ 36 := by rcases h3 with rfl | rfl | rfl <;> decide
          rw [hw0, if_neg (fun h => h36 h.1), if_pos h3]
          exact wordAt_np t (c :: r) at_ _ c w HG.out haI hx rfl (by simp) HLU.out h0 hc0 hlc hdc h3 h36
        · by_cases h36 : c = 36
          · match r with
            | [] =>
              rw [hw0, if_neg (fun h => by cases h.2), if_neg h3]
              exact wordAt_es t [c] at_ _ c w HG.out haI hx rfl (by simp) HLU.out h0 hc0 hlc hdc h3 h36 rfl
            | d :: r' =>
              have h1s : 1 < (str (c :: d :: r')).size := by rw [str_size]; simp only [List.length_cons]; omega
              have hc1 : (str (c :: d :: r'))[1]'h1s = d := by rw [str_get]; rfl
              have h1n : 1 < (c :: d :: r').length := by simp only [List.length_cons]; omega
              cases hdd : digit d with
              | true =>
                rw [hw0, if_pos ⟨h36, hdd⟩]
                exact wordAt_arg t (c :: d :: r') at_ _ c w HG.out haI hx rfl (by simp) HLU.out h0 hc0 hlc hdc h36 h1n d h1s hc1 hdd
              | false =>
                rw [hw0, if_neg (fun h => by have := h.2; rw [show dh (d :: r') = digit d from rfl, hdd] at this; cases this), if_neg h3]
                exact wordAt_ds t (c :: d :: r') at_ _ c w HG.out haI hx rfl (by simp) HLU.out h0 hc0 hlc hdc h3 h36 h1n d h1s hc1 hdd
          · rw [hw0, if_neg (fun h => h36 h.1), if_neg h3]
            exact wordAt_ns t (c :: r) at_ _ c w HG.out haI hx rfl (by simp) HLU.out h0 hc0 hlc hdc h3 h36
end Go.Proofs.YtgkniocjlkfhmaaDoor.I

namespace Go.Proofs.YtgkniocjlkfhmaaDoor.I
open Go Go.RowKit Go.Proofs.YtgkniocjlkfhmaaDoor.B Go.Proofs.YtgkniocjlkfhmaaDoor.K Go.Proofs.YtgkniocjlkfhmaaDoor.E
set_option linter.unusedVariables false

theorem takeWhile_self {p : UInt8 → Bool} (l : Bs) : l.takeWhile p = l ↔ l.all p = true := by
  constructor
  · intro h
    rw [← h]
    exact List.all_takeWhile
  · intro h
    have := takeWhile_all (p := p) (a := l) (b := []) (fun a ha => List.all_eq_true.1 h a ha) rfl
    simpa using this

theorem wd_name (c : UInt8) (r : Bs) (hc : letter c = true) : wd (c :: r) = c :: r ↔ (c :: r).length ≤ 24 ∧ (c :: r).all idc = true := by
  rw [wd_cons, if_pos hc]
  constructor
  · intro h
    have h1 : (c :: r).length ≤ 24 := by
      have := congrArg List.length h
      have h2 := (List.takeWhile_sublist (l := (c :: r).take 24) idc).length_le
      rw [List.length_take] at h2; omega
    rw [List.take_of_length_le h1] at h
    exact ⟨h1, (takeWhile_self _).1 h⟩
  · rintro ⟨h1, h2⟩
    rw [List.take_of_length_le h1]
    exact (takeWhile_self _).2 h2

theorem name_is (c : UInt8) (r : Bs) (hc : letter c = true) (hw : wd (c :: r) = c :: r) : isName (c :: r) = decide (calledOf (c :: r) = 0) := by
  obtain ⟨h1, h2⟩ := (wd_name c r hc).1 hw
  rw [isName_cons, h2, hc, decide_eq_true (by rw [List.length_cons] at h1; omega)]
  unfold calledOf
  by_cases k1 : c :: r = wmin
  · simp [k1]
  by_cases k2 : c :: r = wmax
  · simp [k2, show wmax ≠ wmin by decide]
  by_cases k3 : c :: r = wif
  · simp [k3, show wif ≠ wmin by decide, show wif ≠ wmax by decide]
  simp [k1, k2, k3]

theorem name_no (c : UInt8) (r : Bs) (hw : wd (c :: r) ≠ c :: r) : isName (c :: r) = false := by
  cases hc : letter c with
  | false => rw [isName_cons, hc]; simp
  | true =>
    have h := fun h => hw ((wd_name c r hc).2 h)
    rw [isName_cons]
    by_cases h1 : (c :: r).length ≤ 24
    · have h2 : (c :: r).all idc = false := by
        cases h2 : (c :: r).all idc with
        | false => rfl
        | true => exact absurd ⟨h1, h2⟩ h
      rw [h2]; simp
    · rw [decide_eq_false (by rw [List.length_cons] at h1; omega)]; simp

set_option maxHeartbeats 1000000 in
set_option maxRecDepth 100000 in
theorem name_any (s : Bs) (w : World) (hg : Glob w) (hl : s.length ≤ 9223372036854775807) :
    Calls Tryd.prog 62 #[sv s] w fun e w' => e = .returned (.bool (isName s)) ∧ w = w' := by
  have HG := Lib.hid hg
  have HLU := Lib.hid hl
  clear hg hl
  match s with
  | [] =>
    have he : (str []).toList.isEmpty = true := by rw [str_toList]; rfl
    unfold sv
    go_enter Tryd.func62, Tryd.ntmps62
    go_wp2_with fail
    go_ret
    exact ⟨rfl, rfl⟩
  | c :: r =>
    obtain ⟨s, hs⟩ : ∃ s, c :: r = s := ⟨_, rfl⟩
    have he : (str s).toList.isEmpty = false := by rw [str_toList, ← hs]; rfl
    have hsz : (str s).size = s.length := str_size s
    have h0 : 0 < (str s).size := by rw [str_size, ← hs]; simp
    have hc0 : (str s)[0]'h0 = c := by rw [str_get]; subst hs; rfl
    have hpos : (0 : Int) < (s.length : Int) := by rw [← hs]; simp only [List.length_cons]; omega
    have HL := Lib.hid (fun W => isLetter_any c W)
    have HW := Lib.hid (fun W hW => wordAt_any s s 0 W hW (Nat.zero_le _) rfl (hs ▸ HLU.out))
    have HC := Lib.hid (fun W hW => called_any s W hW)
    rw [hs]
    cases hlc : letter c with
    | false =>
      have hn : isName s = false := by rw [← hs, isName_cons, hlc]; simp
      rw [hn]
      rw [hlc] at HL
      clear hs hlc hn
      unfold sv
      go_enter Tryd.func62, Tryd.ntmps62
      go_wp2_with (go_at_call 81; refine (HL.out _).mono ?_; rintro _ w1 ⟨rfl, rfl⟩)
      go_ret
      exact ⟨rfl, rfl⟩
    | true =>
      rw [hlc] at HL
      by_cases hw : wd s = s
      · have hn : isName s = decide (calledOf s = 0) := by subst hs; exact name_is c r hlc hw
        rw [hn]
        rw [hw] at HW
        have he2 : ((str s).toList == (str s).toList) = true := by simp
        obtain ⟨k, hk⟩ : ∃ k, calledOf s = k := ⟨_, rfl⟩
        rw [hk] at HC ⊢
        clear hs hlc hn hw hk
        unfold sv at HW HC ⊢
        go_enter Tryd.func62, Tryd.ntmps62
        go_wp2_with (first | (go_at_call 81; refine (HL.out _).mono ?_; rintro _ w1 ⟨rfl, rfl⟩) | (go_at_call 82; refine (HW.out _ HG.out).mono ?_; rintro _ w1 ⟨rfl, rfl⟩) | (go_at_call 83; refine (HC.out _ HG.out).mono ?_; rintro _ w1 ⟨rfl, rfl⟩))
        go_ret
        exact ⟨ret_bool (by (rw [Bool.eq_iff_iff]; simp)), rfl⟩
      · have hn : isName s = false := by subst hs; exact name_no c r hw
        rw [hn]
        have he2 : ((str (wd s)).toList == (str s).toList) = false := by rw [str_toList, str_toList]; exact beq_eq_false_iff_ne.2 hw
        obtain ⟨x, hx⟩ : ∃ x, wd s = x := ⟨_, rfl⟩
        rw [hx] at HW he2
        clear hs hlc hn hw hx
        unfold sv at HW ⊢
        go_enter Tryd.func62, Tryd.ntmps62
        go_wp2_with (first | (go_at_call 81; refine (HL.out _).mono ?_; rintro _ w1 ⟨rfl, rfl⟩) | (go_at_call 82; refine (HW.out _ HG.out).mono ?_; rintro _ w1 ⟨rfl, rfl⟩))
        go_ret
        exact ⟨rfl, rfl⟩
end Go.Proofs.YtgkniocjlkfhmaaDoor.I
