/-
  Contracts of the program of layer 4: the longest sign, the instructions that are called.
  Contracts of the program of layer 4: the word at a place; names.
  Contract of the program of layer 4: Name.
  The program's reader of layer 4 in memory; fail.
  Contracts of the program's reader of layer 4: fail, put, end.
-/
import Derived.Test.YtfooiggedgcjcaaGreatDoorIPWords
import Derived.Laws.Rows
import Derived.StillTailTactics
import Derived.Deep.AppendLies
import Derived.RegionTactic
import Derived.Deep.QuietTactic
namespace Go.Proofs.YtfooiggedgcjcaaGreatDoor.I
open Go Go.RowKit Go.Proofs.YtfooiggedgcjcaaGreatDoor.B Go.Proofs.YtfooiggedgcjcaaGreatDoor.K Go.Proofs.YtfooiggedgcjcaaGreatDoor.E
set_option linter.unusedVariables false

/-- The longer sign, if a text begins with it. -/
def better (u l s : Bs) : Bs := if l.length < s.length ∧ s.isPrefixOf u = true then s else l
/-- The longest sign that a text begins with. -/
def sgn (u : Bs) : Bs := signL.foldl (better u) []

theorem signA_get (K : Nat) (l : Bs) (h : signL[K]? = some l) : (signL.map sv).toArray[K]? = some (sv l) := by simp [h]

theorem sgn_step (u : Bs) (K : Nat) (l : Bs) (h : signL[K]? = some l) : (signL.take (K + 1)).foldl (better u) [] = better u ((signL.take K).foldl (better u) []) l := by
  rw [List.take_add_one, h, List.foldl_append]; rfl

theorem better_le (u l s : Bs) (hl : l.length ≤ 3) (hs : s.length ≤ 3) : (better u l s).length ≤ 3 := by unfold better; split <;> assumption
theorem signs_le (K : Nat) (l : Bs) (h : signL[K]? = some l) : l.length ≤ 3 := by
  have : ∀ x ∈ signL, x.length ≤ 3 := by decide
  exact this l (List.mem_of_getElem? h)

theorem run_index_signs {cs : Array Value} {K : Nat} {u : Value} (w : World) (hK : K < 17) (hu : cs[K]? = some u) :
    (Instr.index 176 (.agg cs) (.int .i64 (K : Int))).run Tryz.prog w = .ok u w := by
  have hn : 0 ≤ (K : Int) ∧ (K : Int) < (17 : Nat) := by omega
  simp [Instr.index, run_underlying Tryz.underlying176, asIntOf, hn, go_sem, Tryz.sizeOf9, Tryz.isAgg9, hu]
  intro h
  omega

theorem run_index_three {cs : Array Value} {K : Nat} {u : Value} (w : World) (hK : K < 3) (hu : cs[K]? = some u) :
    (Instr.index 175 (.agg cs) (.int .i64 (K : Int))).run Tryz.prog w = .ok u w := by
  have hn : 0 ≤ (K : Int) ∧ (K : Int) < (3 : Nat) := by omega
  simp [Instr.index, run_underlying Tryz.underlying175, asIntOf, hn, go_sem, Tryz.sizeOf3, Tryz.isAgg3, hu]
  intro h
  omega

set_option maxHeartbeats 1000000 in
set_option maxRecDepth 100000 in
theorem signAt_any (u : Bs) (w : World) (hg : Glob w) (hl : u.length ≤ 9223372036854775807) :
    Calls Tryz.prog 140 #[sv u] w fun e w' => e = .returned (sv (sgn u)) ∧ w = w' := by
  obtain ⟨⟨T, fr, hs⟩, _⟩ := hg
  have HI := Lib.hid (show (Tryz.prog.info? 176).map (·.size) = some (signL.map sv).toArray.size by kernel_rfl)
  obtain ⟨A, hA⟩ : ∃ A, (signL.map sv).toArray = A := ⟨_, rfl⟩
  have HG := Lib.hid (fun K l h => (hA ▸ signA_get K l h : A[K]? = some (sv l)))
  rw [hA] at hs HI
  clear hA
  have HLen := Lib.hid hl
  clear hl
  unfold sv
  go_enter Tryz.func140, Tryz.ntmps140
  go_wp2_with (refine wpList_load_row rfl 176 _ rfl 1 rfl T A fr _ hs Tryz.underlying176 rfl HI.out ?_)
  go_loopw [3, 7] (fun l k wr => ∃ (K : Nat) (b : Bs), k = .int .i64 (K : Int) ∧ l = .string (str b) ∧ K ≤ 17 ∧ w = wr ∧ Hid (b = (signL.take K).foldl (better u) [])) (fun _ k _ => 17 - (intOf k).toNat)
  case atStart => exact ⟨0, [], rfl, rfl, Nat.zero_le _, rfl, Lib.hid rfl⟩
  case round =>
    obtain ⟨K, b, rfl, rfl, hK, rfl, HB⟩ := hrel
    by_cases hlt : K < 17
    · obtain ⟨l, hl⟩ : ∃ l, signL[K]? = some l := ⟨_, List.getElem?_eq_getElem hlt⟩
      have hAK := HG.out K l hl
      have hltI : (K : Int) < 17 := by omega
      have hwK : IntKind.i64.wrap ((K : Int) + 1) = (K : Int) + 1 := IntWalk.i64_in _ (by omega)
      have HL := Lib.hid hl
      clear hl
      unfold sv at hAK
      have hI := fun W => run_index_signs (cs := A) W hlt hAK
      have hsz : (str l).size = l.length := str_size l
      have hszb : (str b).size = b.length := str_size b
      have hs3 := Lib.hid (signs_le K l HL.out)
      have hstep := Lib.hid (sgn_step u K l HL.out)
      clear hAK
      by_cases hlen : b.length < l.length
      · have hlenI : (b.length : Int) < (l.length : Int) := by omega
        have HP := Lib.hid (fun W => S.strings_HasPrefix (str u) (str l) W)
        rw [str_data, str_data] at HP
        obtain ⟨x, hx⟩ : ∃ x, Lib.hasPrefix u l = x := ⟨_, rfl⟩
        rw [hx] at HP
        have HX := Lib.hid hx
        clear hx
        cases x with
        | true =>
          go_wp2_with (go_at_call 164; refine (HP.out _).mono ?_; rintro _ w1 ⟨rfl, rfl⟩)
          go_roundw
          case rel => exact ⟨K + 1, l, by go_num, rfl, by omega, trivial, Lib.hid (by rw [hstep.out, ← HB.out]; unfold better; rw [if_pos ⟨hlen, HX.out⟩])⟩
          case measure => simp [intOf]; omega
        | false =>
          go_wp2_with (go_at_call 164; refine (HP.out _).mono ?_; rintro _ w1 ⟨rfl, rfl⟩)
          go_roundw
          case rel => exact ⟨K + 1, b, by go_num, rfl, by omega, trivial, Lib.hid (by rw [hstep.out, ← HB.out]; unfold better; rw [if_neg (fun h => by have h2 := h.2; rw [show l.isPrefixOf u = false from HX.out] at h2; cases h2)])⟩
          case measure => simp [intOf]; omega
      · have hlenI : ¬ (b.length : Int) < (l.length : Int) := by omega
        go_wp2_with fail
        go_roundw
        case rel => exact ⟨K + 1, b, by go_num, rfl, by omega, trivial, Lib.hid (by rw [hstep.out, ← HB.out]; unfold better; rw [if_neg (fun h => hlen h.1)])⟩
        case measure => simp [intOf]; omega
    · have hltI : ¬ (K : Int) < 17 := by omega
      obtain rfl : K = 17 := by omega
      go_wp2_with fail
      go_ret
      exact ⟨by rw [HB.out]; rfl, rfl⟩
/-- The instruction that a word calls. -/
def calledOf (s : Bs) : Int := if s = wmin then 9 else if s = wmax then 10 else if s = wif then 16 else 0
def threeW (j : Nat) : Bs := match j with | 0 => wmin | 1 => wmax | _ => wif

theorem three_next {s : Bs} {k : Nat} (h : ∀ j, j < k → s ≠ threeW j) (hk : s ≠ threeW k) : ∀ j, j < k + 1 → s ≠ threeW j := by
  intro j hj
  rcases Nat.lt_succ_iff_lt_or_eq.1 hj with h1 | rfl
  · exact h j h1
  · exact hk

set_option maxHeartbeats 1000000 in
set_option maxRecDepth 100000 in
theorem called_any (s : Bs) (w : World) (hg : Glob w) :
    Calls Tryz.prog 110 #[sv s] w fun e w' => e = .returned (.int .i64 (calledOf s)) ∧ w = w' := by
  have c9 := hg.cell 9 wmin rfl
  have c10 := hg.cell 10 wmax rfl
  have c16 := hg.cell 16 wif rfl
  clear hg
  unfold sv at c9 c10 c16 ⊢
  go_enter Tryz.func110, Tryz.ntmps110
  go_wp2_with fail
  go_loopw [6] (fun k wr => ∃ (K : Nat), k = .int .i64 (K : Int) ∧ K ≤ 3 ∧ w = wr ∧ Hid (∀ j, j < K → s ≠ threeW j)) (fun k _ => 3 - (intOf k).toNat)
  case atStart => exact ⟨0, rfl, Nat.zero_le _, rfl, Lib.hid (fun j h => absurd h (Nat.not_lt_zero _))⟩
  case round =>
    obtain ⟨K, rfl, hK, rfl, HB⟩ := hrel
    rcases (show K = 0 ∨ K = 1 ∨ K = 2 ∨ K = 3 by omega) with rfl | rfl | rfl | rfl
    · have hI : ∀ W, (Instr.index 175 (.agg #[.int .i64 9, .int .i64 10, .int .i64 16]) (.int .i64 0)).run Tryz.prog W = .ok (.int .i64 9) W := fun W => run_index_three (K := 0) W (by decide) rfl
      by_cases he : s = wmin
      · subst he
        have e1 : (str wmin).toList = wmin := str_toList wmin
        go_wp2_with fail
        go_ret
        exact ⟨by first | rfl | decide, rfl⟩
      · have hne : ((str s).toList == (str wmin).toList) = false := by rw [str_toList, str_toList]; exact beq_eq_false_iff_ne.2 he
        have HN := Lib.hid he
        clear he
        go_wp2_with fail
        go_roundw
        case rel => exact ⟨1, rfl, by omega, trivial, Lib.hid (three_next HB.out HN.out)⟩
        case measure => simp [intOf]
    · have hI : ∀ W, (Instr.index 175 (.agg #[.int .i64 9, .int .i64 10, .int .i64 16]) (.int .i64 1)).run Tryz.prog W = .ok (.int .i64 10) W := fun W => run_index_three (K := 1) W (by decide) rfl
      by_cases he : s = wmax
      · subst he
        have e1 : (str wmax).toList = wmax := str_toList wmax
        go_wp2_with fail
        go_ret
        exact ⟨by first | rfl | decide, rfl⟩
      · have hne : ((str s).toList == (str wmax).toList) = false := by rw [str_toList, str_toList]; exact beq_eq_false_iff_ne.2 he
        have HN := Lib.hid he
        clear he
        go_wp2_with fail
        go_roundw
        case rel => exact ⟨2, rfl, by omega, trivial, Lib.hid (three_next HB.out HN.out)⟩
        case measure => simp [intOf]
    · have hI : ∀ W, (Instr.index 175 (.agg #[.int .i64 9, .int .i64 10, .int .i64 16]) (.int .i64 2)).run Tryz.prog W = .ok (.int .i64 16) W := fun W => run_index_three (K := 2) W (by decide) rfl
      by_cases he : s = wif
      · subst he
        have e1 : (str wif).toList = wif := str_toList wif
        go_wp2_with fail
        go_ret
        exact ⟨by first | rfl | decide, rfl⟩
      · have hne : ((str s).toList == (str wif).toList) = false := by rw [str_toList, str_toList]; exact beq_eq_false_iff_ne.2 he
        have HN := Lib.hid he
        clear he
        go_wp2_with fail
        go_roundw
        case rel => exact ⟨3, rfl, by omega, trivial, Lib.hid (three_next HB.out HN.out)⟩
        case measure => simp [intOf]
    · go_wp2_with fail
      go_ret
      refine ⟨?_, rfl⟩
      have e : calledOf s = 0 := by
        unfold calledOf
        rw [if_neg (show ¬ s = wmin from HB.out 0 (by omega)), if_neg (show ¬ s = wmax from HB.out 1 (by omega)), if_neg (show ¬ s = wif from HB.out 2 (by omega))]
      rw [e]; rfl
end Go.Proofs.YtfooiggedgcjcaaGreatDoor.I

namespace Go.Proofs.YtfooiggedgcjcaaGreatDoor.I
open Go Go.RowKit Go.Proofs.YtfooiggedgcjcaaGreatDoor.B Go.Proofs.YtfooiggedgcjcaaGreatDoor.K Go.Proofs.YtfooiggedgcjcaaGreatDoor.E
set_option linter.unusedVariables false

/-- Does a digit stand first? -/
def dh : Bs → Bool | d :: _ => digit d | [] => false
/-- The word that a text begins with, as the program has it. -/
def wd (u : Bs) : Bs := match u with
  | [] => []
  | c :: r => if letter c = true then ((c :: r).take 24).takeWhile idc else if digit c = true then (c :: r).takeWhile digit
    else if c = 36 ∧ dh r = true then (c :: r).take 2
    else if c = 40 ∨ c = 41 ∨ c = 44 then [c] else sgn (c :: r)

theorem wd_cons (c : UInt8) (r : Bs) : wd (c :: r) = if letter c = true then ((c :: r).take 24).takeWhile idc else if digit c = true then (c :: r).takeWhile digit
    else if c = 36 ∧ dh r = true then (c :: r).take 2
    else if c = 40 ∨ c = 41 ∨ c = 44 then [c] else sgn (c :: r) := rfl

theorem byte_eq (c : UInt8) (k : Nat) (hk : k < 256) : c = UInt8.ofNat k ↔ c.toNat = k := by
  constructor
  · rintro rfl; rw [UInt8.toNat_ofNat']; omega
  · intro h; rw [← h]; simp

theorem three_index (c : UInt8) : (c = 40 ∨ c = 41 ∨ c = 44) ∧ 0 ≤ Lib.indexByte [40, 41, 44] c ∨ ¬ (c = 40 ∨ c = 41 ∨ c = 44) ∧ Lib.indexByte [40, 41, 44] c = -1 := by
  unfold Lib.indexByte Lib.indexByte Lib.indexByte Lib.indexByte
  by_cases h1 : c = 40
  · subst h1; left; exact ⟨Or.inl rfl, by decide⟩
  by_cases h2 : c = 41
  · subst h2; left; exact ⟨Or.inr (Or.inl rfl), by decide⟩
  by_cases h3 : c = 44
  · subst h3; left; exact ⟨Or.inr (Or.inr rfl), by decide⟩
  right
  refine ⟨by simp [h1, h2, h3], ?_⟩
  have e1 : ((40 : UInt8) == c) = false := beq_eq_false_iff_ne.2 (Ne.symm h1)
  have e2 : ((41 : UInt8) == c) = false := beq_eq_false_iff_ne.2 (Ne.symm h2)
  have e3 : ((44 : UInt8) == c) = false := beq_eq_false_iff_ne.2 (Ne.symm h3)
  simp [e1, e2, e3]

theorem take_two (u : Bs) (c d : UInt8) (h0 : 0 < (str u).size) (h1 : 1 < (str u).size) (e0 : (str u)[0]'h0 = c) (e1 : (str u)[1]'h1 = d) : u.take 2 = [c, d] := by
  rw [str_get] at e0 e1
  rw [str_size] at h1
  cases u with
  | nil => simp at h1
  | cons a r =>
    cases r with
    | nil => simp at h1
    | cons b r' =>
      simp only [List.getElem_cons_zero, List.getElem_cons_succ] at e0 e1
      subst e0; subst e1; rfl

theorem u8_back (c : UInt8) : (c.toNat : Int).toNat.toUInt8 = c := by simp

set_option maxHeartbeats 1000000 in
set_option maxRecDepth 100000 in
theorem wordAt_np (t u : Bs) (at_ n : Nat) (c : UInt8) (w : World) (hg : Glob w) (haI : (at_ : Int) ≤ (t.length : Int)) (hx : (str t).extract at_ t.length = str u) (hn : u.length = n) (h1n : 1 ≤ n) (hl : n ≤ 9223372036854775807)
    (h0 : 0 < (str u).size) (hc0 : (str u)[0]'h0 = c) (hlc : letter c = false) (hdc : digit c = false)
    (h3 : c = 40 ∨ c = 41 ∨ c = 44) (h36 : c ≠ 36) :
    Calls Tryz.prog 109 #[sv t, .int .i64 (at_ : Int)] w fun e w' => e = .returned (sv ([c])) ∧ w = w' := by
  have hsz : (str t).size = t.length := str_size t
  have hszu : (str u).size = n := by rw [str_size, hn]
  have he : (str u).toList.isEmpty = false := by
    rw [str_toList]; cases u with
    | nil => simp at hn; omega
    | cons a b => rfl
  have hpos : (0 : Int) < (n : Int) := by omega
  have HL := Lib.hid (fun W => isLetter_any c W)
  have HD := Lib.hid (fun W => isDigit_any c W)
  have HG := Lib.hid hg
  rw [hlc] at HL
  rw [hdc] at HD
  have hb36 : ((c.toNat : Int) == 36) = false := by
    rw [beq_eq_false_iff_ne]; intro h; exact h36 ((byte_eq c 36 (by decide)).2 (by omega))
  clear h36
  have HI := Lib.hid (fun W => S.strings_IndexByte ⟨#[40, 41, 44]⟩ (c.toNat : Int) W)
  rw [u8_back] at HI
  obtain ⟨ix, hix⟩ : ∃ ix, Lib.indexByte [40, 41, 44] c = ix := ⟨_, rfl⟩
  rw [show (⟨#[40, 41, 44]⟩ : ByteArray).data.toList = [40, 41, 44] from rfl, hix] at HI
  have h3i := (three_index c)
  rw [hix] at h3i
  replace h3i : 0 ≤ ix := by rcases h3i with h | h; exact h.2; exact absurd h3 h.1
  have h1x : (str u).extract 0 1 = str [c] := by
    rw [str_take]; rw [str_get] at hc0; cases u with
    | nil => simp at hn; omega
    | cons a b => cases hc0; rfl
  have h1l : (1 : Int) ≤ (n : Int) := by omega
  unfold sv
  clear hix h3 hlc hdc hn hl hg h1n
  go_enter Tryz.func109, Tryz.ntmps109
  go_wp2_with (first | (go_at_call 108; refine (HL.out _).mono ?_; rintro _ w1 ⟨rfl, rfl⟩) | (go_at_call 138; refine (HD.out _).mono ?_; rintro _ w1 ⟨rfl, rfl⟩) | (go_at_call 139; refine (HI.out _).mono ?_; rintro _ w1 ⟨rfl, rfl⟩))
  go_ret
  exact ⟨rfl, rfl⟩

set_option maxHeartbeats 1000000 in
set_option maxRecDepth 100000 in
theorem wordAt_ns (t u : Bs) (at_ n : Nat) (c : UInt8) (w : World) (hg : Glob w) (haI : (at_ : Int) ≤ (t.length : Int)) (hx : (str t).extract at_ t.length = str u) (hn : u.length = n) (h1n : 1 ≤ n) (hl : n ≤ 9223372036854775807)
    (h0 : 0 < (str u).size) (hc0 : (str u)[0]'h0 = c) (hlc : letter c = false) (hdc : digit c = false)
    (h3 : ¬ (c = 40 ∨ c = 41 ∨ c = 44)) (h36 : c ≠ 36) :
    Calls Tryz.prog 109 #[sv t, .int .i64 (at_ : Int)] w fun e w' => e = .returned (sv (sgn u)) ∧ w = w' := by
  have hsz : (str t).size = t.length := str_size t
  have hszu : (str u).size = n := by rw [str_size, hn]
  have he : (str u).toList.isEmpty = false := by
    rw [str_toList]; cases u with
    | nil => simp at hn; omega
    | cons a b => rfl
  have hpos : (0 : Int) < (n : Int) := by omega
  have HL := Lib.hid (fun W => isLetter_any c W)
  have HD := Lib.hid (fun W => isDigit_any c W)
  have HG := Lib.hid hg
  rw [hlc] at HL
  rw [hdc] at HD
  have hb36 : ((c.toNat : Int) == 36) = false := by
    rw [beq_eq_false_iff_ne]; intro h; exact h36 ((byte_eq c 36 (by decide)).2 (by omega))
  clear h36
  have HI := Lib.hid (fun W => S.strings_IndexByte ⟨#[40, 41, 44]⟩ (c.toNat : Int) W)
  rw [u8_back] at HI
  obtain ⟨ix, hix⟩ : ∃ ix, Lib.indexByte [40, 41, 44] c = ix := ⟨_, rfl⟩
  rw [show (⟨#[40, 41, 44]⟩ : ByteArray).data.toList = [40, 41, 44] from rfl, hix] at HI
  have h3i := (three_index c)
  rw [hix] at h3i
  replace h3i : ix = -1 := by rcases h3i with h | h; exact absurd h.1 h3; exact h.2
  subst h3i
  have HS := Lib.hid (fun W hW => signAt_any u W hW (by rw [hn]; exact hl))
  unfold sv at HS ⊢
  clear hix h3 hlc hdc hn hl hg h1n
  go_enter Tryz.func109, Tryz.ntmps109
  go_wp2_with (first | (go_at_call 108; refine (HL.out _).mono ?_; rintro _ w1 ⟨rfl, rfl⟩) | (go_at_call 138; refine (HD.out _).mono ?_; rintro _ w1 ⟨rfl, rfl⟩) | (go_at_call 139; refine (HI.out _).mono ?_; rintro _ w1 ⟨rfl, rfl⟩) | (go_at_call 140; refine (HS.out _ HG.out).mono ?_; rintro _ w1 ⟨rfl, rfl⟩))
  go_ret
  exact ⟨rfl, rfl⟩

set_option maxHeartbeats 1000000 in
set_option maxRecDepth 100000 in
theorem wordAt_es (t u : Bs) (at_ n : Nat) (c : UInt8) (w : World) (hg : Glob w) (haI : (at_ : Int) ≤ (t.length : Int)) (hx : (str t).extract at_ t.length = str u) (hn : u.length = n) (h1n : 1 ≤ n) (hl : n ≤ 9223372036854775807)
    (h0 : 0 < (str u).size) (hc0 : (str u)[0]'h0 = c) (hlc : letter c = false) (hdc : digit c = false)
    (h3 : ¬ (c = 40 ∨ c = 41 ∨ c = 44)) (h36 : c = 36) (h1 : n = 1) :
    Calls Tryz.prog 109 #[sv t, .int .i64 (at_ : Int)] w fun e w' => e = .returned (sv (sgn u)) ∧ w = w' := by
  have hsz : (str t).size = t.length := str_size t
  have hszu : (str u).size = n := by rw [str_size, hn]
  have he : (str u).toList.isEmpty = false := by
    rw [str_toList]; cases u with
    | nil => simp at hn; omega
    | cons a b => rfl
  have hpos : (0 : Int) < (n : Int) := by omega
  have HL := Lib.hid (fun W => isLetter_any c W)
  have HD := Lib.hid (fun W => isDigit_any c W)
  have HG := Lib.hid hg
  rw [hlc] at HL
  rw [hdc] at HD
  have hb36 : ((c.toNat : Int) == 36) = true := by rw [h36]; rfl
  have hd1 : decide ((1 : Int) < (n : Int)) = false := decide_eq_false (by omega)
  clear h36 h1
  have HI := Lib.hid (fun W => S.strings_IndexByte ⟨#[40, 41, 44]⟩ (c.toNat : Int) W)
  rw [u8_back] at HI
  obtain ⟨ix, hix⟩ : ∃ ix, Lib.indexByte [40, 41, 44] c = ix := ⟨_, rfl⟩
  rw [show (⟨#[40, 41, 44]⟩ : ByteArray).data.toList = [40, 41, 44] from rfl, hix] at HI
  have h3i := (three_index c)
  rw [hix] at h3i
  replace h3i : ix = -1 := by rcases h3i with h | h; exact absurd h.1 h3; exact h.2
  subst h3i
  have HS := Lib.hid (fun W hW => signAt_any u W hW (by rw [hn]; exact hl))
  unfold sv at HS ⊢
  clear hix h3 hlc hdc hn hl hg h1n
  go_enter Tryz.func109, Tryz.ntmps109
  go_wp2_with (first | (go_at_call 108; refine (HL.out _).mono ?_; rintro _ w1 ⟨rfl, rfl⟩) | (go_at_call 138; refine (HD.out _).mono ?_; rintro _ w1 ⟨rfl, rfl⟩) | (go_at_call 139; refine (HI.out _).mono ?_; rintro _ w1 ⟨rfl, rfl⟩) | (go_at_call 140; refine (HS.out _ HG.out).mono ?_; rintro _ w1 ⟨rfl, rfl⟩))
  go_ret
  exact ⟨rfl, rfl⟩

set_option maxHeartbeats 1000000 in
set_option maxRecDepth 100000 in
theorem wordAt_ds (t u : Bs) (at_ n : Nat) (c : UInt8) (w : World) (hg : Glob w) (haI : (at_ : Int) ≤ (t.length : Int)) (hx : (str t).extract at_ t.length = str u) (hn : u.length = n) (h1n : 1 ≤ n) (hl : n ≤ 9223372036854775807)
    (h0 : 0 < (str u).size) (hc0 : (str u)[0]'h0 = c) (hlc : letter c = false) (hdc : digit c = false)
    (h3 : ¬ (c = 40 ∨ c = 41 ∨ c = 44)) (h36 : c = 36) (h1 : 1 < n) (d : UInt8) (h1s : 1 < (str u).size) (hc1 : (str u)[1]'h1s = d) (hdd : digit d = false) :
    Calls Tryz.prog 109 #[sv t, .int .i64 (at_ : Int)] w fun e w' => e = .returned (sv (sgn u)) ∧ w = w' := by
  have hsz : (str t).size = t.length := str_size t
  have hszu : (str u).size = n := by rw [str_size, hn]
  have he : (str u).toList.isEmpty = false := by
    rw [str_toList]; cases u with
    | nil => simp at hn; omega
    | cons a b => rfl
  have hpos : (0 : Int) < (n : Int) := by omega
  have HL := Lib.hid (fun W => isLetter_any c W)
  have HD := Lib.hid (fun W => isDigit_any c W)
  have HG := Lib.hid hg
  rw [hlc] at HL
  rw [hdc] at HD
  have hb36 : ((c.toNat : Int) == 36) = true := by rw [h36]; rfl
  have hd1 : (1 : Int) < (n : Int) := by omega
  have HDD := Lib.hid (fun W => isDigit_any d W)
  rw [hdd] at HDD
  clear h36 h1 hdd
  have HI := Lib.hid (fun W => S.strings_IndexByte ⟨#[40, 41, 44]⟩ (c.toNat : Int) W)
  rw [u8_back] at HI
  obtain ⟨ix, hix⟩ : ∃ ix, Lib.indexByte [40, 41, 44] c = ix := ⟨_, rfl⟩
  rw [show (⟨#[40, 41, 44]⟩ : ByteArray).data.toList = [40, 41, 44] from rfl, hix] at HI
  have h3i := (three_index c)
  rw [hix] at h3i
  replace h3i : ix = -1 := by rcases h3i with h | h; exact absurd h.1 h3; exact h.2
  subst h3i
  have HS := Lib.hid (fun W hW => signAt_any u W hW (by rw [hn]; exact hl))
  unfold sv at HS ⊢
  clear hix h3 hlc hdc hn hl hg h1n
  go_enter Tryz.func109, Tryz.ntmps109
  go_wp2_with (first | (go_at_call 108; refine (HL.out _).mono ?_; rintro _ w1 ⟨rfl, rfl⟩) | (go_at_call 138; first | (refine (HD.out _).mono ?_; rintro _ w1 ⟨rfl, rfl⟩) | (refine (HDD.out _).mono ?_; rintro _ w1 ⟨rfl, rfl⟩)) | (go_at_call 139; refine (HI.out _).mono ?_; rintro _ w1 ⟨rfl, rfl⟩) | (go_at_call 140; refine (HS.out _ HG.out).mono ?_; rintro _ w1 ⟨rfl, rfl⟩))
  go_ret
  exact ⟨rfl, rfl⟩

set_option maxHeartbeats 1000000 in
set_option maxRecDepth 100000 in
theorem wordAt_arg (t u : Bs) (at_ n : Nat) (c : UInt8) (w : World) (hg : Glob w) (haI : (at_ : Int) ≤ (t.length : Int)) (hx : (str t).extract at_ t.length = str u) (hn : u.length = n) (h1n : 1 ≤ n) (hl : n ≤ 9223372036854775807)
    (h0 : 0 < (str u).size) (hc0 : (str u)[0]'h0 = c) (hlc : letter c = false) (hdc : digit c = false)
    (h36 : c = 36) (h1 : 1 < n) (d : UInt8) (h1s : 1 < (str u).size) (hc1 : (str u)[1]'h1s = d) (hdd : digit d = true) :
    Calls Tryz.prog 109 #[sv t, .int .i64 (at_ : Int)] w fun e w' => e = .returned (sv [c, d]) ∧ w = w' := by
  have hsz : (str t).size = t.length := str_size t
  have hszu : (str u).size = n := by rw [str_size, hn]
  have he : (str u).toList.isEmpty = false := by
    rw [str_toList]; cases u with
    | nil => simp at hn; omega
    | cons a b => rfl
  have hpos : (0 : Int) < (n : Int) := by omega
  have HL := Lib.hid (fun W => isLetter_any c W)
  have HD := Lib.hid (fun W => isDigit_any c W)
  have HG := Lib.hid hg
  rw [hlc] at HL
  rw [hdc] at HD
  have hb36 : ((c.toNat : Int) == 36) = true := by rw [h36]; rfl
  have hd1 : (1 : Int) < (n : Int) := by omega
  have HDD := Lib.hid (fun W => isDigit_any d W)
  rw [hdd] at HDD
  have h2x : (str u).extract 0 2 = str [c, d] := by
    rw [str_take, take_two u c d h0 h1s hc0 hc1]
  have h2l : (2 : Int) ≤ (n : Int) := by omega
  unfold sv
  clear hlc hdc hn hl hg h1n h36 h1 hdd
  go_enter Tryz.func109, Tryz.ntmps109
  go_wp2_with (first | (go_at_call 108; refine (HL.out _).mono ?_; rintro _ w1 ⟨rfl, rfl⟩) | (go_at_call 138; first | (refine (HD.out _).mono ?_; rintro _ w1 ⟨rfl, rfl⟩) | (refine (HDD.out _).mono ?_; rintro _ w1 ⟨rfl, rfl⟩)))
  go_ret
  exact ⟨rfl, rfl⟩

set_option maxHeartbeats 1000000 in
set_option maxRecDepth 100000 in
theorem wordAt_any (t u : Bs) (at_ : Nat) (w : World) (hg : Glob w) (ha : at_ ≤ t.length) (hu : t.drop at_ = u) (hl : t.length ≤ 9223372036854775807) :
    Calls Tryz.prog 109 #[sv t, .int .i64 (at_ : Int)] w fun e w' => e = .returned (sv (wd u)) ∧ w = w' := by
  have hsz : (str t).size = t.length := str_size t
  have hlu : u.length ≤ 9223372036854775807 := by rw [← hu, List.length_drop]; omega
  have hx : (str t).extract at_ t.length = str u := by rw [str_extract, hu, List.take_of_length_le (by rw [← hu, List.length_drop]; exact Nat.le_refl _)]
  have hszu : (str u).size = u.length := str_size u
  have HG := Lib.hid hg
  have HLU := Lib.hid hlu
  have haI : (at_ : Int) ≤ (t.length : Int) := by omega
  clear hl hlu hg hu
  match u with
  | [] =>
    have he : (str []).toList.isEmpty = true := by rw [str_toList]; rfl
    unfold sv
    go_enter Tryz.func109, Tryz.ntmps109
    go_wp2_with fail
    go_ret
    exact ⟨rfl, rfl⟩
  | c :: r =>
    have he : (str (c :: r)).toList.isEmpty = false := by rw [str_toList]; rfl
    have h0 : 0 < (str (c :: r)).size := by rw [str_size]; simp
    have hc0 : (str (c :: r))[0]'h0 = c := by rw [str_get]; rfl
    have hpos : (0 : Int) < ((c :: r).length : Int) := by simp
    have HL := Lib.hid (fun W => isLetter_any c W)
    have HD := Lib.hid (fun W => isDigit_any c W)
    cases hlc : letter c with
    | true =>
      have HB := Lib.hid (fun W => beginName_any (c :: r) 24 W HLU.out (by decide))
      have hw : wd (c :: r) = ((c :: r).take 24).takeWhile idc := by rw [wd_cons, if_pos hlc]
      rw [hw]
      rw [hlc] at HL
      unfold sv at HB ⊢
      clear hlc hw HD
      go_enter Tryz.func109, Tryz.ntmps109
      go_wp2_with (first | (go_at_call 108; refine (HL.out _).mono ?_; rintro _ w1 ⟨rfl, rfl⟩) | (go_at_call 136; refine (HB.out _).mono ?_; rintro _ w1 ⟨rfl, rfl⟩))
      go_ret
      exact ⟨rfl, rfl⟩
    | false =>
      rw [hlc] at HL
      cases hdc : digit c with
      | true =>
        have HB := Lib.hid (fun W => beginDigit_any (c :: r) (c :: r).length W HLU.out HLU.out)
        have hw : wd (c :: r) = (c :: r).takeWhile digit := by rw [wd_cons, if_neg (by rw [hlc]; decide), if_pos hdc]
        rw [hw]
        rw [List.take_length] at HB
        rw [hdc] at HD
        unfold sv at HB ⊢
        clear hlc hdc hw
        go_enter Tryz.func109, Tryz.ntmps109
        go_wp2_with (first | (go_at_call 108; refine (HL.out _).mono ?_; rintro _ w1 ⟨rfl, rfl⟩) | (go_at_call 138; refine (HD.out _).mono ?_; rintro _ w1 ⟨rfl, rfl⟩) | (go_at_call 136; refine (HB.out _).mono ?_; rintro _ w1 ⟨rfl, rfl⟩))
        go_ret
        exact ⟨rfl, rfl⟩
      | false =>
        rw [hdc] at HD
        have hw0 : wd (c :: r) = if c = 36 ∧ dh r = true then (c :: r).take 2 else if c = 40 ∨ c = 41 ∨ c = 44 then [c] else sgn (c :: r) := by
          rw [wd_cons, if_neg (by rw [hlc]; decide), if_neg (by rw [hdc]; decide)]
        clear HL HD he hpos
        by_cases h3 : c = 40 ∨ c = 41 ∨ c = 44
        · have h36 : c ≠ 36 := by rcases h3 with rfl | rfl | rfl <;> decide
          rw [hw0, if_neg (fun h => h36 h.1), if_pos h3]
          exact wordAt_np t (c :: r) at_ _ c w HG.out haI hx rfl (by simp) HLU.out h0 hc0 hlc hdc h3 h36
        · by_cases h36 : c = 36
          · match r with
            | [] =>
              rw [hw0, if_neg (fun h => by cases h.2), if_neg h3]
              exact wordAt_es t [c] at_ _ c w HG.out haI hx rfl (by simp) HLU.out h0 hc0 hlc hdc h3 h36 rfl
            | d :: r' =>
              have h1s : 1 < (str (c :: d :: r')).size := by rw [str_size]; simp only [List.length_cons]; omega
              have hc1 : (str (c :: d :: r'))[1]'h1s = d := by rw [str_get]; rfl
              have h1n : 1 < (c :: d :: r').length := by simp only [List.length_cons]; omega
              cases hdd : digit d with
              | true =>
                rw [hw0, if_pos ⟨h36, hdd⟩]
                exact wordAt_arg t (c :: d :: r') at_ _ c w HG.out haI hx rfl (by simp) HLU.out h0 hc0 hlc hdc h36 h1n d h1s hc1 hdd
              | false =>
                rw [hw0, if_neg (fun h => by have := h.2; rw [show dh (d :: r') = digit d from rfl, hdd] at this; cases this), if_neg h3]
                exact wordAt_ds t (c :: d :: r') at_ _ c w HG.out haI hx rfl (by simp) HLU.out h0 hc0 hlc hdc h3 h36 h1n d h1s hc1 hdd
          · rw [hw0, if_neg (fun h => h36 h.1), if_neg h3]
            exact wordAt_ns t (c :: r) at_ _ c w HG.out haI hx rfl (by simp) HLU.out h0 hc0 hlc hdc h3 h36
end Go.Proofs.YtfooiggedgcjcaaGreatDoor.I

namespace Go.Proofs.YtfooiggedgcjcaaGreatDoor.I
open Go Go.RowKit Go.Proofs.YtfooiggedgcjcaaGreatDoor.B Go.Proofs.YtfooiggedgcjcaaGreatDoor.K Go.Proofs.YtfooiggedgcjcaaGreatDoor.E
set_option linter.unusedVariables false

theorem takeWhile_self {p : UInt8 → Bool} (l : Bs) : l.takeWhile p = l ↔ l.all p = true := by
  constructor
  · intro h
    rw [← h]
    exact List.all_takeWhile
  · intro h
    have := takeWhile_all (p := p) (a := l) (b := []) (fun a ha => List.all_eq_true.1 h a ha) rfl
    simpa using this

theorem wd_name (c : UInt8) (r : Bs) (hc : letter c = true) : wd (c :: r) = c :: r ↔ (c :: r).length ≤ 24 ∧ (c :: r).all idc = true := by
  rw [wd_cons, if_pos hc]
  constructor
  · intro h
    have h1 : (c :: r).length ≤ 24 := by
      have := congrArg List.length h
      have h2 := (List.takeWhile_sublist (l := (c :: r).take 24) idc).length_le
      rw [List.length_take] at h2; omega
    rw [List.take_of_length_le h1] at h
    exact ⟨h1, (takeWhile_self _).1 h⟩
  · rintro ⟨h1, h2⟩
    rw [List.take_of_length_le h1]
    exact (takeWhile_self _).2 h2

theorem name_is (c : UInt8) (r : Bs) (hc : letter c = true) (hw : wd (c :: r) = c :: r) : isName (c :: r) = decide (calledOf (c :: r) = 0) := by
  obtain ⟨h1, h2⟩ := (wd_name c r hc).1 hw
  rw [isName_cons, h2, hc, decide_eq_true (by rw [List.length_cons] at h1; omega)]
  unfold calledOf
  by_cases k1 : c :: r = wmin
  · simp [k1]
  by_cases k2 : c :: r = wmax
  · simp [k2, show wmax ≠ wmin by decide]
  by_cases k3 : c :: r = wif
  · simp [k3, show wif ≠ wmin by decide, show wif ≠ wmax by decide]
  simp [k1, k2, k3]

theorem name_no (c : UInt8) (r : Bs) (hw : wd (c :: r) ≠ c :: r) : isName (c :: r) = false := by
  cases hc : letter c with
  | false => rw [isName_cons, hc]; simp
  | true =>
    have h := fun h => hw ((wd_name c r hc).2 h)
    rw [isName_cons]
    by_cases h1 : (c :: r).length ≤ 24
    · have h2 : (c :: r).all idc = false := by
        cases h2 : (c :: r).all idc with
        | false => rfl
        | true => exact absurd ⟨h1, h2⟩ h
      rw [h2]; simp
    · rw [decide_eq_false (by rw [List.length_cons] at h1; omega)]; simp

set_option maxHeartbeats 1000000 in
set_option maxRecDepth 100000 in
theorem name_any (s : Bs) (w : World) (hg : Glob w) (hl : s.length ≤ 9223372036854775807) :
    Calls Tryz.prog 74 #[sv s] w fun e w' => e = .returned (.bool (isName s)) ∧ w = w' := by
  have HG := Lib.hid hg
  have HLU := Lib.hid hl
  clear hg hl
  match s with
  | [] =>
    have he : (str []).toList.isEmpty = true := by rw [str_toList]; rfl
    unfold sv
    go_enter Tryz.func74, Tryz.ntmps74
    go_wp2_with fail
    go_ret
    exact ⟨rfl, rfl⟩
  | c :: r =>
    obtain ⟨s, hs⟩ : ∃ s, c :: r = s := ⟨_, rfl⟩
    have he : (str s).toList.isEmpty = false := by rw [str_toList, ← hs]; rfl
    have hsz : (str s).size = s.length := str_size s
    have h0 : 0 < (str s).size := by rw [str_size, ← hs]; simp
    have hc0 : (str s)[0]'h0 = c := by rw [str_get]; subst hs; rfl
    have hpos : (0 : Int) < (s.length : Int) := by rw [← hs]; simp only [List.length_cons]; omega
    have HL := Lib.hid (fun W => isLetter_any c W)
    have HW := Lib.hid (fun W hW => wordAt_any s s 0 W hW (Nat.zero_le _) rfl (hs ▸ HLU.out))
    have HC := Lib.hid (fun W hW => called_any s W hW)
    rw [hs]
    cases hlc : letter c with
    | false =>
      have hn : isName s = false := by rw [← hs, isName_cons, hlc]; simp
      rw [hn]
      rw [hlc] at HL
      clear hs hlc hn
      unfold sv
      go_enter Tryz.func74, Tryz.ntmps74
      go_wp2_with (go_at_call 108; refine (HL.out _).mono ?_; rintro _ w1 ⟨rfl, rfl⟩)
      go_ret
      exact ⟨rfl, rfl⟩
    | true =>
      rw [hlc] at HL
      by_cases hw : wd s = s
      · have hn : isName s = decide (calledOf s = 0) := by subst hs; exact name_is c r hlc hw
        rw [hn]
        rw [hw] at HW
        have he2 : ((str s).toList == (str s).toList) = true := by simp
        obtain ⟨k, hk⟩ : ∃ k, calledOf s = k := ⟨_, rfl⟩
        rw [hk] at HC ⊢
        clear hs hlc hn hw hk
        unfold sv at HW HC ⊢
        go_enter Tryz.func74, Tryz.ntmps74
        go_wp2_with (first | (go_at_call 108; refine (HL.out _).mono ?_; rintro _ w1 ⟨rfl, rfl⟩) | (go_at_call 109; refine (HW.out _ HG.out).mono ?_; rintro _ w1 ⟨rfl, rfl⟩) | (go_at_call 110; refine (HC.out _ HG.out).mono ?_; rintro _ w1 ⟨rfl, rfl⟩))
        go_ret
        exact ⟨ret_bool (by (rw [Bool.eq_iff_iff]; simp)), rfl⟩
      · have hn : isName s = false := by subst hs; exact name_no c r hw
        rw [hn]
        have he2 : ((str (wd s)).toList == (str s).toList) = false := by rw [str_toList, str_toList]; exact beq_eq_false_iff_ne.2 hw
        obtain ⟨x, hx⟩ : ∃ x, wd s = x := ⟨_, rfl⟩
        rw [hx] at HW he2
        clear hs hlc hn hw hx
        unfold sv at HW ⊢
        go_enter Tryz.func74, Tryz.ntmps74
        go_wp2_with (first | (go_at_call 108; refine (HL.out _).mono ?_; rintro _ w1 ⟨rfl, rfl⟩) | (go_at_call 109; refine (HW.out _ HG.out).mono ?_; rintro _ w1 ⟨rfl, rfl⟩))
        go_ret
        exact ⟨rfl, rfl⟩
end Go.Proofs.YtfooiggedgcjcaaGreatDoor.I

namespace Go.Proofs.YtfooiggedgcjcaaGreatDoor.I
open Go Go.RowKit Go.Proofs.YtfooiggedgcjcaaGreatDoor.B Go.Proofs.YtfooiggedgcjcaaGreatDoor.K Go.Proofs.YtfooiggedgcjcaaGreatDoor.E
set_option linter.unusedVariables false

/-- A reader's cells. -/
def rdCells (t : Bs) (v1 : Value) (na : Int) (a : Nat) (s : Bs) (v : Value) (e : Int) : Array Value := #[sv t, v1, .int .i64 na, .int .i64 (a : Int), sv s, v, .int .i64 e]

/-- Block B is a reader: where it is, the word there, what it has read, what is wrong; blocks of f hold what f says; what was there at first is there. -/
structure Rd (f : Nat → Option Obj) (W0 : World) (B : Nat) (t : Bs) (v1 : Value) (na : Int) (a : Nat) (s : Bs) (c : List In) (e : Int) (w : World) : Prop where
  below : Below W0.heap.size W0 w
  le : W0.heap.size ≤ B
  frame : ∀ i o, f i = some o → w.heap[i]? = some o ∧ i ≠ B
  own : ∃ v, w.heap[B]? = some (.cells (rdCells t v1 na a s v e) 178 (0, 0)) ∧ w.ownsRow (B + 1) 83 2 v c.length (pairCells c) ∧ ∀ k, v.ownBlock = some k → f k = none

section
variable {f : Nat → Option Obj} {W0 w w' : World} {B a a' : Nat} {t s s' : Bs} {v1 : Value} {na e e' : Int} {c : List In}

theorem Rd.lt (h : Rd f W0 B t v1 na a s c e w) : B < w.heap.size := by
  obtain ⟨v, hv, _⟩ := h.own
  exact (Array.getElem?_eq_some_iff.1 hv).1

/-- What it reads. -/
theorem Rd.cells (h : Rd f W0 B t v1 na a s c e w) : ∃ v, (w.cell? ⟨B, 0, none⟩ = some (sv t) ∧ w.cell? ⟨B, 1, none⟩ = some v1 ∧ w.cell? ⟨B, 2, none⟩ = some (.int .i64 na) ∧ w.cell? ⟨B, 3, none⟩ = some (.int .i64 (a : Int)) ∧ w.cell? ⟨B, 4, none⟩ = some (sv s) ∧ w.cell? ⟨B, 5, none⟩ = some v ∧ w.cell? ⟨B, 6, none⟩ = some (.int .i64 e)) ∧
    w.ownsRow (B + 1) 83 2 v c.length (pairCells c) ∧ ∀ j, j < 7 → w.frozen? ⟨B, j, none⟩ = false := by
  obtain ⟨v, hv, ho, _⟩ := h.own
  refine ⟨v, ⟨?_, ?_, ?_, ?_, ?_, ?_, ?_⟩, ho, fun j hj => (row_cell hv (show j < (rdCells t v1 na a s v e).size from hj)).choose_spec.2⟩ <;> (rw [cell_of_row _ _ _ _ _ _ hv]; rfl)

theorem Rd.glob (h : Rd f W0 B t v1 na a s c e w) (hg : Glob W0) : Glob w := hg.below h.below
theorem Rd.names (h : Rd f W0 B t v1 na a s c e w) {vs : List Bs} (hn : Names W0 v1 vs) : Names w v1 vs := Sl.below hn h.below

/-- New memory alone. -/
theorem Rd.grow (h : Rd f W0 B t v1 na a s c e w) (hb : Below w.heap.size w w') : Rd f W0 B t v1 na a s c e w' := by
  have hlt := h.lt
  obtain ⟨v, hv, ho, hf⟩ := h.own
  refine ⟨h.below.trans (hb.mono h.below.size), h.le, fun i o hi => ?_, v, (hb.block _ hlt).trans hv, own_kept ho hb, hf⟩
  obtain ⟨h1, h2⟩ := h.frame i o hi
  exact ⟨(hb.block _ (Array.getElem?_eq_some_iff.1 h1).1).trans h1, h2⟩

theorem Rd.drewN (h : Rd f W0 B t v1 na a s c e w) (n : Nat) : Rd f W0 B t v1 na a s c e (w.drewN n) := h.grow (below_drewN (Below.refl _ _) n)

/-- A cell more in the frame. -/
theorem Rd.add (h : Rd f W0 B t v1 na a s c e w) (o : Obj) : Rd (fun i => if i = w.heap.size then some o else f i) W0 B t v1 na a s c e (w.alloc o) := by
  have hlt := h.lt
  have h2 := h.grow ((Below.refl w.heap.size w).alloc (Nat.le_refl _) o)
  obtain ⟨v, hv, ho, hf⟩ := h.own
  obtain ⟨v', hv', ho', hf'⟩ := h2.own
  refine ⟨h2.below, h.le, fun i o' hi => ?_, v', hv', ho', fun k hk => ?_⟩
  · by_cases hi2 : i = w.heap.size
    · rw [if_pos hi2] at hi; cases hi; subst hi2
      exact ⟨heap_alloc_at _ _, by omega⟩
    · rw [if_neg hi2] at hi
      exact h2.frame i o' hi
  · have hvv : v' = v := by
      rw [show (w.alloc o).heap[B]? = w.heap[B]? from alloc_keeps w o B hlt, hv] at hv'
      have := Option.some.inj hv'
      simp only [Obj.cells.injEq, rdCells, Array.mk.injEq, List.cons.injEq] at this
      exact this.1.2.2.2.2.2.1.symm
    subst hvv
    have hk2 : k < w.heap.size := (World.ownsRow.lt ho k hk).2
    show (if k = w.heap.size then some o else f k) = none
    rw [if_neg (by omega)]
    exact hf k hk

theorem Rd.less {f' : Nat → Option Obj} (h : Rd f' W0 B t v1 na a s c e w) (hf : ∀ i o, f i = some o → f' i = some o) : Rd f W0 B t v1 na a s c e w := by
  obtain ⟨v, hv, ho, hn⟩ := h.own
  refine ⟨h.below, h.le, fun i o hi => h.frame i o (hf i o hi), v, hv, ho, fun k hk => ?_⟩
  cases hk2 : f k with
  | none => rfl
  | some o => have := hn k hk; rw [hf k o hk2] at this; cases this

theorem Rd.drop {o : Obj} {k : Nat} (h : Rd (fun i => if i = k then some o else f i) W0 B t v1 na a s c e w') (hf : f k = none) : Rd f W0 B t v1 na a s c e w' :=
  h.less fun i o' hi => by
    by_cases h2 : i = k
    · subst h2; rw [hf] at hi; cases hi
    · rw [if_neg h2]; exact hi

theorem Rd.new (h : Rd f W0 B t v1 na a s c e w) : f w.heap.size = none := by
  cases hf : f w.heap.size with
  | none => rfl
  | some o => have := (Array.getElem?_eq_some_iff.1 (h.frame _ o hf).1).1; omega

/-- A store into one of its cells. -/
theorem Rd.set (h : Rd f W0 B t v1 na a s c e w) (j : Nat) (u : Value) (hs : ∀ v, (rdCells t v1 na a s v e).setIfInBounds j u = rdCells t v1 na a' s' v e') : Rd f W0 B t v1 na a' s' c e' (w.setCell ⟨B, j, none⟩ u) := by
  have hlt := h.lt
  obtain ⟨v, hv, ho, hf⟩ := h.own
  have hk : ∀ i, i ≠ B → (w.setCell ⟨B, j, none⟩ u).heap[i]? = w.heap[i]? := fun i hi => Below.heap_setCell _ _ _ i hi
  refine ⟨?_, h.le, fun i o hi => ?_, v, ?_, ?_, hf⟩
  · exact Below.setCell h.below h.le _
  · obtain ⟨h1, h2⟩ := h.frame i o hi
    exact ⟨(hk i h2).trans h1, h2⟩
  · rw [← hs v]; exact heap_setCell_same w B j _ _ u hv
  · refine World.ownsRow.kept (row := some B) ho ⟨rfl, rfl, rfl, by simp [World.setCell], fun i _ hn => hk i (fun h2 => hn (by rw [h2]))⟩ (Or.inr (fun h2 => ?_))
    have := owns_block ho B h2; omega
end
end Go.Proofs.YtfooiggedgcjcaaGreatDoor.I

namespace Go.Proofs.YtfooiggedgcjcaaGreatDoor.I
open Go Go.RowKit Go.Proofs.YtfooiggedgcjcaaGreatDoor.B Go.Proofs.YtfooiggedgcjcaaGreatDoor.K Go.Proofs.YtfooiggedgcjcaaGreatDoor.E
set_option linter.unusedVariables false

section
variable {f : Nat → Option Obj} {W0 w w3 : World} {B a : Nat} {t s : Bs} {v1 v : Value} {na e : Int} {c : List In}

/-- Behind the append the reader is as it was. -/
theorem Rd.pushed (h : Rd f W0 B t v1 na a s c e w) {X : Obj} (hv : w.cell? ⟨B, 5, none⟩ = some v) (hg : (w.alloc X).grownBy w3 v.ownBlock) : w3.cell? ⟨B, 5, none⟩ = some v ∧ w3.frozen? ⟨B, 5, none⟩ = false := by
  have hlt := h.lt
  obtain ⟨v', hv', ho', hf'⟩ := h.own
  have hvv : v' = v := by
    rw [cell_of_row _ _ _ _ _ _ hv'] at hv
    exact Option.some.inj hv
  subst hvv
  have hB : w3.heap[B]? = some (.cells (rdCells t v1 na a s v' e) 178 (0, 0)) :=
    (hg.block B (by simp; omega) (fun h2 => by have := owns_block ho' B h2.symm; omega)).trans ((alloc_keeps w X B hlt).trans hv')
  exact ⟨by rw [cell_of_row _ _ _ _ _ _ hB]; rfl, (row_cell hB (show 5 < (rdCells t v1 na a s v' e).size by show 5 < 7; decide)).choose_spec.2⟩

theorem Rd.push (h : Rd f W0 B t v1 na a s c e w) {o x : Int} {g cap : Nat} {X : Obj} (hv : w.cell? ⟨B, 5, none⟩ = some v)
    (ho : w3.ownsRow (B + 1) 83 2 (.slice (some ⟨g, 0, none⟩) (c.length + 1) cap) (c.length + 1) (pairCells c ++ [.int .i64 o, .int .i64 x]))
    (hg : (w.alloc X).grownBy w3 v.ownBlock) (hblk : v.ownBlock = some g ∨ g = (w.alloc X).heap.size) :
    Rd f W0 B t v1 na a s (c ++ [(o, x)]) e (w3.setCell ⟨B, 5, none⟩ (.slice (some ⟨g, 0, none⟩) (c.length + 1) cap)) := by
  have hlt := h.lt
  obtain ⟨v', hv', ho', hf'⟩ := h.own
  have hvv : v' = v := by
    rw [cell_of_row _ _ _ _ _ _ hv'] at hv
    exact Option.some.inj hv
  subst hvv
  have hsz : (w.alloc X).heap.size = w.heap.size + 1 := by simp
  have hsame : ∀ i, i < w.heap.size → v'.ownBlock ≠ some i → w3.heap[i]? = w.heap[i]? := fun i hi hn =>
    (hg.block i (by omega) (fun h2 => hn h2.symm)).trans (alloc_keeps w X i hi)
  have hBn : v'.ownBlock ≠ some B := fun h2 => by have := owns_block ho' B h2; omega
  have hgB : B + 1 ≤ g := by
    rcases hblk with h2 | h2
    · exact owns_block ho' g h2
    · omega
  refine ⟨?_, h.le, fun i o' hi => ?_, .slice (some ⟨g, 0, none⟩) (c.length + 1) cap, ?_, ?_, fun k hk => ?_⟩
  · refine Below.setCell (Below.grown (h.below.alloc h.below.size X) hg (by have := h.below.size; omega) (fun k hk => ?_)) h.le _
    have := owns_block ho' k hk; have := h.le; omega
  · obtain ⟨h1, h2⟩ := h.frame i o' hi
    refine ⟨(Below.heap_setCell _ _ _ i h2).trans ((hsame i (Array.getElem?_eq_some_iff.1 h1).1 (fun h3 => ?_)).trans h1), h2⟩
    rw [hf' i h3] at hi; cases hi
  · exact heap_setCell_same w3 B 5 _ _ _ ((hsame B hlt hBn).trans hv')
  · have hl : (c ++ [(o, x)]).length = c.length + 1 := by simp
    have hp : pairCells (c ++ [(o, x)]) = pairCells c ++ [.int .i64 o, .int .i64 x] := by rw [pairCells_append]; rfl
    rw [hl, hp]
    refine World.ownsRow.kept (row := some B) ho ⟨rfl, rfl, rfl, by simp [World.setCell], fun i _ hn => Below.heap_setCell _ _ _ i (fun h2 => hn (by rw [h2]))⟩ (Or.inr (fun h2 => ?_))
    simp [Value.ownBlock] at h2; omega
  · simp [Value.ownBlock] at hk
    subst hk
    rcases hblk with h2 | h2
    · exact hf' g h2
    · cases hfg : f g with
      | none => rfl
      | some o' => have := (Array.getElem?_eq_some_iff.1 (h.frame g o' hfg).1).1; omega
end

section
variable {f : Nat → Option Obj} {W0 : World} {B a : Nat} {t s : Bs} {v1 : Value} {na e : Int} {c : List In}

set_option maxHeartbeats 400000 in
theorem fail_any (w : World) (e' : Int) (h : Rd f W0 B t v1 na a s c e w) :
    Calls Tryz.prog 167 #[.pointer (some ⟨B, 0, none⟩), .int .i64 e'] w fun x w' => x = .returned (.bool false) ∧ Rd f W0 B t v1 na a s c e' w' := by
  obtain ⟨v, ⟨_, _, _, _, _, _, c6⟩, _, hfz⟩ := h.cells
  have f6 := hfz 6 (by decide)
  have HR := Lib.hid (h.set (a' := a) (s' := s) (e' := e') 6 (.int .i64 e') (fun v => rfl))
  clear hfz h
  go_enter Tryz.func167, Tryz.ntmps167
  go_wp2_with fail
  go_ret
  exact ⟨rfl, HR.out⟩

theorem two_new' (W : World) (o x : Int) : ∀ j u, [Value.int .i64 o, .int .i64 x][j]? = some u → (W.alloc (.cells #[.int .i64 o, .int .i64 x] 83)).cell? ((⟨W.heap.size, 0, none⟩ : Addr).add j) = some u :=
  World.news_of_block (cs := #[.int .i64 o, .int .i64 x]) (heap_alloc_at W _)
theorem two_cell' (o x : Int) : ∀ u ∈ [Value.int .i64 o, .int .i64 x], u.oneCell' = true := by
  intro u hu; simp at hu; rcases hu with rfl | rfl <;> rfl

set_option maxHeartbeats 1000000 in
theorem put_any (w : World) (o x : Int) (h : Rd f W0 B t v1 na a s c e w) (hc : c.length ≤ 1000000000000) :
    Calls Tryz.prog 189 #[.pointer (some ⟨B, 0, none⟩), .int .i64 o, .int .i64 x] w fun z w' => z = .returned (.tuple #[]) ∧ Rd f W0 B t v1 na a s (c ++ [(o, x)]) e w' := by
  obtain ⟨v, ⟨_, _, _, _, _, c5, _⟩, ho, hfz⟩ := h.cells
  have f5 := hfz 5 (by decide)
  have hlt := h.lt
  obtain ⟨i0, hi, hz0, hz1, hz2⟩ : ∃ i, Tryz.prog.info? 83 = some i ∧ i.zero = some (.agg #[.int .i64 0, .int .i64 0]) ∧ i.size = 2 ∧ i.bytes = 16 := by
    have h : (Tryz.prog.info? 83).map (fun i => (i.zero, i.size, i.bytes)) = some (some (.agg #[.int .i64 0, .int .i64 0]), 2, 16) := by kernel_rfl
    obtain ⟨i, h1, h2⟩ := Option.map_eq_some_iff.1 h
    simp only [Prod.mk.injEq] at h2
    exact ⟨i, h1, h2.1, h2.2.1, h2.2.2⟩
  have HH := Lib.hid h
  have HO := Lib.hid ho
  have HR1 := Lib.hid (show c.length + 1 ≤ maxLen by unfold maxLen; omega)
  have HR2 := Lib.hid (show (c.length + 1) * 16 ≤ 140737488355328 by omega)
  have HR3 := Lib.hid (show B + 1 ≤ (w.alloc (.cells #[.int .i64 o, .int .i64 x] 83)).heap.size by simp; omega)
  have HLT := Lib.hid hlt
  have HC5 := Lib.hid c5
  clear hfz h ho hc hlt
  go_enter Tryz.func189, Tryz.ntmps189
  go_wp2_with (at_builtin; go_must (refine wpList_append_lies _ rfl _ _ 74 rfl (B + 1) 83 i0 (.agg #[.int .i64 0, .int .i64 0]) 2 16 Tryz.underlying74 hi hz0 hz1 hz2 rfl (by decide) _ _ _ rfl (World.ownsRow.alloc HO.out _) ⟨w.heap.size, 0, none⟩ 1 1 [.int .i64 o, .int .i64 x] rfl rfl (two_new' _ _ _) (two_cell' _ _) (by decide) HR1.out HR2.out HR3.out _ rfl ?_); intro g' cap' w3 hown3 hgrow3 hblk3 hlt3; have HR := Lib.hid (HH.out.push HC5.out hown3 hgrow3 hblk3); obtain ⟨c5', f5'⟩ := HH.out.pushed HC5.out hgrow3; clear hown3 hgrow3 hblk3)
  go_end0
  exact ⟨rfl, HR.out⟩
end
end Go.Proofs.YtfooiggedgcjcaaGreatDoor.I
