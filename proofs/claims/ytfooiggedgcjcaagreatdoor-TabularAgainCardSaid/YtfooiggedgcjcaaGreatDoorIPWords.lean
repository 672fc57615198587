/-
  Layer 6: the program's lines: words, pieces, numbers, names.
  What the program calls of the library at this dump: each one application of the shelf's own theorem.
  Contracts of the program of layer 4: letters, digits, how far a word goes.
-/
import Derived.Test.YtfooiggedgcjcaaGreatDoorTMem
import Derived.Test.YtfooiggedgcjcaaGreatDoorTSLib
import Derived.Test.YtfooiggedgcjcaaGreatDoorTSpec
import Derived.Lib.IndexBytes
import Derived.Deep.QuietTactic
import Derived.BigQuiet
import Derived.StillTailTactics
import Derived.Shelf.Strings.OnBuilder
import Derived.Shelf.Small.Strs
import Derived.Shelf.Strconv.Atoi
import Derived.Shelf.LaysM
import Derived.Shelf.Strconv.Itoa3
import Derived.Shelf.Strconv.Clone
import Derived.Shelf.Strings.Prefix
import Derived.Shelf.Slices.Turned
import Derived.Test.YtfooiggedgcjcaaGreatDoorProg
namespace Go.Proofs.YtfooiggedgcjcaaGreatDoor.T
open Go Go.RowKit Go.Proofs.YtfooiggedgcjcaaGreatDoor.B Go.Proofs.YtfooiggedgcjcaaGreatDoor.K Go.Proofs.YtfooiggedgcjcaaGreatDoor.E Go.Proofs.YtfooiggedgcjcaaGreatDoor.R
set_option linter.unusedVariables false

/-! ## The library's calls, in plain words -/

theorem cut_is (c : UInt8) (s : Bs) : Lib.cut s [c] = (upTo c s, past c s, hasB c s) := by
  have key : ∀ s : Bs, (Lib.indexByte s c = -1 ∧ upTo c s = s ∧ past c s = [] ∧ hasB c s = false) ∨ (∃ n : Nat, Lib.indexByte s c = n ∧ upTo c s = s.take n ∧ past c s = s.drop (n + 1) ∧ hasB c s = true) := by
    intro s
    induction s with
    | nil => exact Or.inl ⟨rfl, rfl, rfl, rfl⟩
    | cons b s ih =>
      by_cases hb : b = c
      · subst hb
        right
        refine ⟨0, by simp [Lib.indexByte], by simp [upTo], by simp [past], by simp [hasB]⟩
      · have hbb : (b == c) = false := beq_eq_false_iff_ne.2 hb
        have h2 : upTo c (b :: s) = b :: upTo c s := by unfold upTo; rw [List.takeWhile_cons_of_pos (by simpa using hb)]
        have h3 : past c (b :: s) = past c s := by unfold past; rw [List.dropWhile_cons_of_pos (by simpa using hb)]
        have h4 : hasB c (b :: s) = hasB c s := by unfold hasB; rw [List.any_cons, hbb, Bool.false_or]
        rcases ih with ⟨e1, e2, e3, e4⟩ | ⟨n, e1, e2, e3, e4⟩
        · left
          refine ⟨?_, by rw [h2, e2], by rw [h3, e3], by rw [h4, e4]⟩
          simp [Lib.indexByte, hbb, e1]
        · right
          refine ⟨n + 1, ?_, by rw [h2, e2]; rfl, by rw [h3, e3]; rfl, by rw [h4, e4]⟩
          have : ((n : Int) == -1) = false := by rw [beq_eq_false_iff_ne]; omega
          simp [Lib.indexByte, hbb, e1, this]
  unfold Lib.cut
  rw [Lib.index_one]
  rcases key s with ⟨e1, e2, e3, e4⟩ | ⟨n, e1, e2, e3, e4⟩
  · rw [e1, if_neg (by decide), e2, e3, e4]
  · rw [e1, if_pos (by omega), e2, e3, e4]
    simp

theorem sv_is (l : Bs) : Value.string ⟨l.toArray⟩ = sv l := rfl

theorem cut_any (s : Bs) (c : UInt8) (w : World) (hs : s.length < 4294967281) :
    Calls Tryz.prog 33 #[sv s, .string ⟨#[c]⟩] w fun e w' => e = .returned (.tuple #[sv (upTo c s), sv (past c s), .bool (hasB c s)]) ∧ ∃ n, w' = w.drewN n := by
  have h := S.strs_Cut_one S.lays145 (str s) c w (by rw [str_size]; exact hs)
  rw [str_data, cut_is] at h
  exact h
theorem trimLeft_any (s : Bs) (w : World) :
    Calls Tryz.prog 34 #[sv s, .string ⟨#[32]⟩] w fun e w' => e = .returned (sv (trimL s)) ∧ w' = w := by
  have h := S.strings_TrimLeft_one (str s) 32 (by decide) w
  rw [str_data] at h
  exact h
theorem trimRight_any (s : Bs) (w : World) (hs : s.length ≤ 9223372036854775807) :
    Calls Tryz.prog 144 #[sv s, .string ⟨#[32]⟩] w fun e w' => e = .returned (sv (trimR s)) ∧ w' = w := by
  have h := S.strings_TrimRight_one (str s) 32 (by decide) w (by rw [str_size]; exact hs)
  rw [str_data] at h
  exact h
theorem trim_any (s : Bs) (w : World) (hs : s.length ≤ 9223372036854775807) :
    Calls Tryz.prog 25 #[sv s, .string ⟨#[32]⟩] w fun e w' => e = .returned (sv (trim s)) ∧ ∃ n, w' = w.drewN n := by
  have h := S.strings_Trim_one (str s) 32 (by decide) w (by rw [str_size]; exact hs)
  rw [str_data] at h
  refine h.mono fun e w' ⟨he, hw⟩ => ⟨he, ?_⟩
  rcases hw with rfl | rfl
  · exact ⟨0, rfl⟩
  · exact ⟨1, rfl⟩

/-! ## Lines -/

set_option maxHeartbeats 1000000 in
theorem newLine_any (s : Bs) (w : World) (hs : s.length ≤ 9223372036854775807) :
    Calls Tryz.prog 10 #[sv s] w fun e w' => e = .returned (.agg #[sv (trim s)]) ∧ Below w.heap.size w w' := by
  have HT := Lib.hid (fun W => trim_any s W hs)
  obtain ⟨x, hx⟩ : ∃ x, trim s = x := ⟨_, rfl⟩
  rw [hx] at HT ⊢
  unfold sv at HT ⊢
  clear hs hx
  go_enter Tryz.func10, Tryz.ntmps10
  go_wp2_with (go_at_call 25; refine (HT.out _).mono ?_; rintro _ w1 ⟨rfl, n, rfl⟩)
  refine bodyPost_ret (v := .agg #[.string (str x)]) (by simp [results, Tryz.results10, go_sem]) rfl ⟨rfl, ?_⟩
  exact (below_drewN ((Below.refl _ _).alloc (Nat.le_refl _) _) _).setCell (by simp) _

theorem ended_yes (g : Nat) (w : World) (h : w.cell? ⟨g, 0, none⟩ = some (sv [])) :
    Calls Tryz.prog 11 #[.pointer (some ⟨g, 0, none⟩)] w fun e w' => e = .returned (.bool true) ∧ w = w' := by
  unfold sv at h
  have e1 : ((str []).toList == ([] : Bs)) = true := by rw [str_toList]; rfl
  go_enter Tryz.func11, Tryz.ntmps11
  go_wp2_with fail
  go_ret
  exact ⟨rfl, rfl⟩
theorem ended_no (g : Nat) (s : Bs) (hs : s ≠ []) (w : World) (h : w.cell? ⟨g, 0, none⟩ = some (sv s)) :
    Calls Tryz.prog 11 #[.pointer (some ⟨g, 0, none⟩)] w fun e w' => e = .returned (.bool false) ∧ w = w' := by
  unfold sv at h
  have e1 : ((str s).toList == ([] : Bs)) = false := by rw [str_toList]; exact beq_eq_false_iff_ne.2 hs
  have e2 : s.isEmpty = false := by cases s with | nil => exact absurd rfl hs | cons _ _ => rfl
  have e3 : (str s).toList.isEmpty = false := by rw [str_toList]; exact e2
  clear hs
  go_enter Tryz.func11, Tryz.ntmps11
  go_wp2_with fail
  go_ret
  exact ⟨rfl, rfl⟩

set_option maxHeartbeats 1000000 in
theorem word_any (g : Nat) (s : Bs) (hs : s.length < 4294967281) (w : World) (h : w.cell? ⟨g, 0, none⟩ = some (sv s)) (hf : w.frozen? ⟨g, 0, none⟩ = false) :
    Calls Tryz.prog 13 #[.pointer (some ⟨g, 0, none⟩)] w fun e w' => e = .returned (sv (wd s)) ∧ ∃ n, w' = (w.drewN n).setCell ⟨g, 0, none⟩ (sv (nx s)) := by
  have HC := Lib.hid (fun W => cut_any s 32 W hs)
  have HT := Lib.hid (fun W => trimLeft_any (past 32 s) W)
  show Calls _ _ _ _ fun e w' => e = .returned (sv (upTo 32 s)) ∧ ∃ n, w' = (w.drewN n).setCell ⟨g, 0, none⟩ (sv (trimL (past 32 s)))
  obtain ⟨x, hx⟩ : ∃ x, upTo 32 s = x := ⟨_, rfl⟩
  obtain ⟨y, hy⟩ : ∃ y, past 32 s = y := ⟨_, rfl⟩
  rw [hy] at HC HT ⊢
  rw [hx] at HC ⊢
  obtain ⟨z, hz⟩ : ∃ z, trimL y = z := ⟨_, rfl⟩
  rw [hz] at HT ⊢
  unfold sv at HC HT h ⊢
  clear hs hx hy hz
  go_enter Tryz.func13, Tryz.ntmps13
  go_wp2_with (first | (go_at_call 33; refine (HC.out _).mono ?_; rintro _ w1 ⟨rfl, n, rfl⟩) | (go_at_call 34; refine (HT.out _).mono ?_; rintro _ w1 ⟨rfl, rfl⟩))
  go_ret
  exact ⟨rfl, n, rfl⟩

set_option maxHeartbeats 1000000 in
theorem piece_any (g : Nat) (s : Bs) (hs : s.length < 4294967281) (w : World) (h : w.cell? ⟨g, 0, none⟩ = some (sv s)) (hf : w.frozen? ⟨g, 0, none⟩ = false) :
    Calls Tryz.prog 116 #[.pointer (some ⟨g, 0, none⟩)] w fun e w' => e = .returned (.tuple #[sv (pc s), .bool (hasB 59 s)]) ∧ ∃ n, w' = (w.drewN n).setCell ⟨g, 0, none⟩ (sv (pnx s)) := by
  have HC := Lib.hid (fun W => cut_any s 59 W hs)
  have HT := Lib.hid (fun W => trimLeft_any (past 59 s) W)
  have HR := Lib.hid (fun W => trimRight_any (upTo 59 s) W (by have := (List.takeWhile_prefix (l := s) (· != (59 : UInt8))).length_le; unfold upTo; omega))
  show Calls _ _ _ _ fun e w' => e = .returned (.tuple #[sv (trimR (upTo 59 s)), .bool (hasB 59 s)]) ∧ ∃ n, w' = (w.drewN n).setCell ⟨g, 0, none⟩ (sv (trimL (past 59 s)))
  obtain ⟨x, hx⟩ : ∃ x, upTo 59 s = x := ⟨_, rfl⟩
  obtain ⟨y, hy⟩ : ∃ y, past 59 s = y := ⟨_, rfl⟩
  obtain ⟨b, hb⟩ : ∃ b, hasB 59 s = b := ⟨_, rfl⟩
  rw [hy] at HC HT ⊢
  rw [hx] at HC HR ⊢
  rw [hb] at HC ⊢
  obtain ⟨z, hz⟩ : ∃ z, trimL y = z := ⟨_, rfl⟩
  obtain ⟨u, hu⟩ : ∃ u, trimR x = u := ⟨_, rfl⟩
  rw [hz] at HT ⊢
  rw [hu] at HR ⊢
  unfold sv at HC HT HR h ⊢
  clear hs hx hy hz hu hb
  go_enter Tryz.func116, Tryz.ntmps116
  go_wp2_with (first | (go_at_call 33; refine (HC.out _).mono ?_; rintro _ w1 ⟨rfl, n, rfl⟩) | (go_at_call 34; refine (HT.out _).mono ?_; rintro _ w1 ⟨rfl, rfl⟩) | (go_at_call 144; refine (HR.out _).mono ?_; rintro _ w1 ⟨rfl, rfl⟩))
  go_ret2
  exact ⟨rfl, n, rfl⟩
end Go.Proofs.YtfooiggedgcjcaaGreatDoor.T

namespace Go.Proofs.YtfooiggedgcjcaaGreatDoor.S
open Go.Shelf Go.Proofs
def lays156_ren : Go.Shelf.Ren := ⟨fun | 156 => 23 | 165 => 53 | 166 => 54 | 169 => 55 | 240 => 97 | 241 => 98 | 276 => 125 | 277 => 126 | n => n, fun | 31 => 22 | 9 => 9 | 3 => 3 | 4 => 4 | 0 => 0 | 20 => 20 | 72 => 103 | 76 => 107 | 70 => 100 | 37 => 101 | 75 => 106 | 127 => 143 | 164 => 167 | 5 => 5 | 80 => 50 | n => n, fun | n => n⟩
theorem lays156 : Go.Proofs.Lays.n156 Tryz.prog lays156_ren := {
  mixed := by kernel_rfl
  f156 := Tryz.func23.trans (congrArg some (by kernel_rfl))
  f165 := Tryz.func53.trans (congrArg some (by kernel_rfl))
  f166 := Tryz.func54.trans (congrArg some (by kernel_rfl))
  f169 := Tryz.func55.trans (congrArg some (by kernel_rfl))
  f240 := Tryz.func97.trans (congrArg some (by kernel_rfl))
  f241 := Tryz.func98.trans (congrArg some (by kernel_rfl))
  f276 := Tryz.func125.trans (congrArg some (by kernel_rfl))
  f277 := Tryz.func126.trans (congrArg some (by kernel_rfl))
  t0 := Tryz.underlying0
  a0 := Tryz.isAgg0
  z0 := Tryz.sizeOf0
  v0 := Tryz.zeroValue0
  t3 := Tryz.underlying3
  a3 := Tryz.isAgg3
  z3 := Tryz.sizeOf3
  v3 := Tryz.zeroValue3
  t4 := Tryz.underlying4
  a4 := Tryz.isAgg4
  z4 := Tryz.sizeOf4
  v4 := Tryz.zeroValue4
  t9 := Tryz.underlying9
  a9 := Tryz.isAgg9
  z9 := Tryz.sizeOf9
  v9 := Tryz.zeroValue9
  t20 := Tryz.underlying20
  a20 := Tryz.isAgg20
  z20 := Tryz.sizeOf20
  v20 := Tryz.zeroValue20
  t31 := Tryz.underlying22
  a31 := Tryz.isAgg22
  z31 := Tryz.sizeOf22
  v31 := Tryz.zeroValue22
  t37 := Tryz.underlying101
  a37 := Tryz.isAgg101
  z37 := Tryz.sizeOf101
  v37 := Tryz.zeroValue101
  t70 := Tryz.underlying100
  a70 := Tryz.isAgg100
  z70 := Tryz.sizeOf100
  v70 := Tryz.zeroValue100
  t72 := Tryz.underlying103
  a72 := Tryz.isAgg103
  z72 := Tryz.sizeOf103
  v72 := Tryz.zeroValue103
  t75 := Tryz.underlying106
  a75 := Tryz.isAgg106
  z75 := Tryz.sizeOf106
  v75 := Tryz.zeroValue106
  t76 := Tryz.underlying107
  a76 := Tryz.isAgg107
  z76 := Tryz.sizeOf107
  v76 := Tryz.zeroValue107
  t127 := Tryz.underlying143
  a127 := Tryz.isAgg143
  z127 := Tryz.sizeOf143
  v127 := Tryz.zeroValue143
  t164 := Tryz.underlying167
  a164 := Tryz.isAgg167
  z164 := Tryz.sizeOf167
  v164 := Tryz.zeroValue167 }
theorem Builder_Extra_156 : Builder.Extra Tryz.prog lays156_ren := {
  sizeBuilder := by kernel_rfl
  liesBuilder := by kernel_rfl
  t5 := Tryz.underlying5
  a5 := Tryz.isAgg5
  z5 := Tryz.sizeOf5
  v5 := Tryz.zeroValue5
  infoByte := by kernel_rfl
  cellsByte := by kernel_rfl
  sizeByte := by kernel_rfl
  neB5 := by decide }
open Go.RowKit in
theorem strings_Join (bk o c : Nat) (xs : List ByteArray) (sep : ByteArray) (w : World) (hcells : ∀ (j : Nat) x, xs[j]? = some x → w.cell? ⟨bk, o + j, none⟩ = some (.string x)) (hbk : bk < w.heap.size) (hN : xs.length ≤ 140737488355328) (hcap : xs.length ≤ c) (hlen : (Lib.join (xs.map (·.data.toList)) sep.data.toList).length ≤ 140737488355328) :
    Calls Tryz.prog 23 #[.slice (some ⟨bk, o, none⟩) xs.length c, .string sep] w fun e w' => e = .returned (.string ⟨(Lib.join (xs.map (·.data.toList)) sep.data.toList).toArray⟩) ∧ Below w.heap.size w w' := Any.strings_Join lays156 Builder_Extra_156 bk o c xs sep w hcells hbk hN hcap hlen
def lays137_ren : Go.Shelf.Ren := ⟨fun | 137 => 139 | 217 => 128 | 266 => 156 | n => n, fun | 9 => 9 | 5 => 5 | 3 => 3 | n => n, fun | n => n⟩
theorem lays137 : Go.Proofs.Lays.n137 Tryz.prog lays137_ren := {
  mixed := by kernel_rfl
  f137 := Tryz.func139.trans (congrArg some (by kernel_rfl))
  f217 := Tryz.func128.trans (congrArg some (by kernel_rfl))
  f266 := Tryz.func156.trans (congrArg some (by kernel_rfl))
  t3 := Tryz.underlying3
  a3 := Tryz.isAgg3
  z3 := Tryz.sizeOf3
  v3 := Tryz.zeroValue3
  t5 := Tryz.underlying5
  a5 := Tryz.isAgg5
  z5 := Tryz.sizeOf5
  v5 := Tryz.zeroValue5
  t9 := Tryz.underlying9
  a9 := Tryz.isAgg9
  z9 := Tryz.sizeOf9
  v9 := Tryz.zeroValue9 }
open Go.RowKit in
theorem strings_IndexByte (s : ByteArray) (c : Int) (w : World) :
    Calls Tryz.prog 139 #[.string s, .int .u8 c] w fun e w' => e = .returned (.int .i64 (Lib.indexByte s.data.toList c.toNat.toUInt8)) ∧ w' = w := Any.strings_IndexByte lays137 s c w
def lays172_ren : Go.Shelf.Ren := ⟨fun | 172 => 107 | 244 => 134 | 245 => 135 | 247 => 159 | 279 => 160 | 280 => 161 | 281 => 162 | 282 => 163 | 287 => 177 | 316 => 106 | 171 => 50 | 205 => 178 | 321 => 185 | 322 => 186 | 243 => 94 | 246 => 123 | 283 => 147 | 284 => 148 | 285 => 149 | 286 => 150 | 129 => 170 | 317 => 169 | 318 => 171 | 319 => 172 | 320 => 173 | 337 => 183 | 338 => 184 | n => n, fun | 9 => 9 | 3 => 3 | 75 => 106 | 76 => 107 | 4 => 4 | 5 => 5 | 167 => 197 | 37 => 101 | 0 => 0 | 85 => 198 | 2 => 2 | 168 => 200 | 53 => 182 | 175 => 213 | 46 => 171 | 210 => 216 | 127 => 143 | 145 => 224 | 143 => 222 | 21 => 21 | 171 => 181 | 173 => 185 | 212 => 209 | 51 => 193 | 20 => 20 | 213 => 210 | 232 => 227 | 233 => 228 | 80 => 50 | n => n, fun | 15 => 5 | 16 => 6 | 17 => 4 | 18 => 7 | 19 => 8 | n => n⟩
theorem lays172 : Go.Proofs.Lays.n172 Tryz.prog lays172_ren := {
  mixed := by kernel_rfl
  f129 := Tryz.func170.trans (congrArg some (by kernel_rfl))
  f171 := Tryz.func50.trans (congrArg some (by kernel_rfl))
  f172 := Tryz.func107.trans (congrArg some (by kernel_rfl))
  f205 := Tryz.func178.trans (congrArg some (by kernel_rfl))
  f243 := Tryz.func94.trans (congrArg some (by kernel_rfl))
  f244 := Tryz.func134.trans (congrArg some (by kernel_rfl))
  f245 := Tryz.func135.trans (congrArg some (by kernel_rfl))
  f246 := Tryz.func123.trans (congrArg some (by kernel_rfl))
  f247 := Tryz.func159.trans (congrArg some (by kernel_rfl))
  f279 := Tryz.func160.trans (congrArg some (by kernel_rfl))
  f280 := Tryz.func161.trans (congrArg some (by kernel_rfl))
  f281 := Tryz.func162.trans (congrArg some (by kernel_rfl))
  f282 := Tryz.func163.trans (congrArg some (by kernel_rfl))
  f283 := Tryz.func147.trans (congrArg some (by kernel_rfl))
  f284 := Tryz.func148.trans (congrArg some (by kernel_rfl))
  f285 := Tryz.func149.trans (congrArg some (by kernel_rfl))
  f286 := Tryz.func150.trans (congrArg some (by kernel_rfl))
  f287 := Tryz.func177.trans (congrArg some (by kernel_rfl))
  f316 := Tryz.func106.trans (congrArg some (by kernel_rfl))
  f317 := Tryz.func169.trans (congrArg some (by kernel_rfl))
  f318 := Tryz.func171.trans (congrArg some (by kernel_rfl))
  f319 := Tryz.func172.trans (congrArg some (by kernel_rfl))
  f320 := Tryz.func173.trans (congrArg some (by kernel_rfl))
  f321 := Tryz.func185.trans (congrArg some (by kernel_rfl))
  f322 := Tryz.func186.trans (congrArg some (by kernel_rfl))
  f337 := Tryz.func183.trans (congrArg some (by kernel_rfl))
  f338 := Tryz.func184.trans (congrArg some (by kernel_rfl))
  t0 := Tryz.underlying0
  a0 := Tryz.isAgg0
  z0 := Tryz.sizeOf0
  v0 := Tryz.zeroValue0
  t2 := Tryz.underlying2
  a2 := Tryz.isAgg2
  z2 := Tryz.sizeOf2
  v2 := Tryz.zeroValue2
  t3 := Tryz.underlying3
  a3 := Tryz.isAgg3
  z3 := Tryz.sizeOf3
  v3 := Tryz.zeroValue3
  t4 := Tryz.underlying4
  a4 := Tryz.isAgg4
  z4 := Tryz.sizeOf4
  v4 := Tryz.zeroValue4
  t5 := Tryz.underlying5
  a5 := Tryz.isAgg5
  z5 := Tryz.sizeOf5
  v5 := Tryz.zeroValue5
  t9 := Tryz.underlying9
  a9 := Tryz.isAgg9
  z9 := Tryz.sizeOf9
  v9 := Tryz.zeroValue9
  t20 := Tryz.underlying20
  a20 := Tryz.isAgg20
  z20 := Tryz.sizeOf20
  v20 := Tryz.zeroValue20
  t21 := Tryz.underlying21
  a21 := Tryz.isAgg21
  z21 := Tryz.sizeOf21
  v21 := Tryz.zeroValue21
  t37 := Tryz.underlying101
  a37 := Tryz.isAgg101
  z37 := Tryz.sizeOf101
  v37 := Tryz.zeroValue101
  t46 := Tryz.underlying171
  a46 := Tryz.isAgg171
  z46 := Tryz.sizeOf171
  v46 := Tryz.zeroValue171
  t51 := Tryz.underlying193
  a51 := Tryz.isAgg193
  z51 := Tryz.sizeOf193
  v51 := Tryz.zeroValue193
  t53 := Tryz.underlying182
  a53 := Tryz.isAgg182
  z53 := Tryz.sizeOf182
  v53 := Tryz.zeroValue182
  t75 := Tryz.underlying106
  a75 := Tryz.isAgg106
  z75 := Tryz.sizeOf106
  v75 := Tryz.zeroValue106
  t76 := Tryz.underlying107
  a76 := Tryz.isAgg107
  z76 := Tryz.sizeOf107
  v76 := Tryz.zeroValue107
  t85 := Tryz.underlying198
  a85 := Tryz.isAgg198
  z85 := Tryz.sizeOf198
  v85 := Tryz.zeroValue198
  t127 := Tryz.underlying143
  a127 := Tryz.isAgg143
  z127 := Tryz.sizeOf143
  v127 := Tryz.zeroValue143
  t143 := Tryz.underlying222
  a143 := Tryz.isAgg222
  z143 := Tryz.sizeOf222
  v143 := Tryz.zeroValue222
  t145 := Tryz.underlying224
  a145 := Tryz.isAgg224
  z145 := Tryz.sizeOf224
  v145 := Tryz.zeroValue224
  t167 := Tryz.underlying197
  a167 := Tryz.isAgg197
  z167 := Tryz.sizeOf197
  v167 := Tryz.zeroValue197
  t168 := Tryz.underlying200
  a168 := Tryz.isAgg200
  z168 := Tryz.sizeOf200
  v168 := Tryz.zeroValue200
  t171 := Tryz.underlying181
  a171 := Tryz.isAgg181
  z171 := Tryz.sizeOf181
  v171 := Tryz.zeroValue181
  t173 := Tryz.underlying185
  a173 := Tryz.isAgg185
  z173 := Tryz.sizeOf185
  v173 := Tryz.zeroValue185
  t175 := Tryz.underlying213
  a175 := Tryz.isAgg213
  z175 := Tryz.sizeOf213
  v175 := Tryz.zeroValue213
  t210 := Tryz.underlying216
  a210 := Tryz.isAgg216
  z210 := Tryz.sizeOf216
  v210 := Tryz.zeroValue216
  t212 := Tryz.underlying209
  a212 := Tryz.isAgg209
  z212 := Tryz.sizeOf209
  v212 := Tryz.zeroValue209
  t213 := Tryz.underlying210
  a213 := Tryz.isAgg210
  z213 := Tryz.sizeOf210
  t232 := Tryz.underlying227
  a232 := Tryz.isAgg227
  z232 := Tryz.sizeOf227
  v232 := Tryz.zeroValue227
  t233 := Tryz.underlying228
  a233 := Tryz.isAgg228
  z233 := Tryz.sizeOf228
  v233 := Tryz.zeroValue228
  g15 := by kernel_rfl
  g16 := by kernel_rfl
  g17 := by kernel_rfl
  g18 := by kernel_rfl
  g19 := by kernel_rfl }
open Go.RowKit in
theorem strconv_Atoi (s : ByteArray) (n : Int) (hl : s.size ≤ 18) (h : Lib.atoi s.data.toList = some n) (w : World) :
    Calls Tryz.prog 107 #[.string s] w fun e w' => e = .returned (.tuple #[.int .i64 n, .nilIface]) ∧ ∃ t, w' = Lib.bytesWorld w 5 t := Any.strconv_Atoi lays172 s n hl h w
def laysM171_ren : Go.Shelf.Ren := ⟨fun | 171 => 50 | 243 => 94 | 246 => 123 | 283 => 147 | 284 => 148 | 285 => 149 | 286 => 150 | 129 => 170 | 317 => 169 | 318 => 171 | 319 => 172 | 320 => 173 | 337 => 183 | 338 => 184 | n => n, fun | 3 => 3 | 9 => 9 | 2 => 2 | 4 => 4 | 171 => 181 | 0 => 0 | 53 => 182 | 37 => 101 | 5 => 5 | 173 => 185 | 212 => 209 | 51 => 193 | 20 => 20 | 213 => 210 | 46 => 171 | 232 => 227 | 233 => 228 | n => n, fun | 17 => 4 | 18 => 7 | 19 => 8 | n => n⟩
theorem laysM171 : Go.Proofs.LaysM.n171 Tryz.prog laysM171_ren := {
  mixed := by kernel_rfl
  f129 := Tryz.func170.trans (congrArg some (by kernel_rfl))
  f171 := Tryz.func50.trans (congrArg some (by kernel_rfl))
  f243 := Tryz.func94.trans (congrArg some (by kernel_rfl))
  f246 := Tryz.func123.trans (congrArg some (by kernel_rfl))
  f283 := Tryz.func147.trans (congrArg some (by kernel_rfl))
  f284 := Tryz.func148.trans (congrArg some (by kernel_rfl))
  f285 := Tryz.func149.trans (congrArg some (by kernel_rfl))
  f286 := Tryz.func150.trans (congrArg some (by kernel_rfl))
  f317 := Tryz.func169.trans (congrArg some (by kernel_rfl))
  f318 := Tryz.func171.trans (congrArg some (by kernel_rfl))
  f319 := Tryz.func172.trans (congrArg some (by kernel_rfl))
  f320 := Tryz.func173.trans (congrArg some (by kernel_rfl))
  f337 := Tryz.func183.trans (congrArg some (by kernel_rfl))
  f338 := Tryz.func184.trans (congrArg some (by kernel_rfl))
  t0 := Tryz.underlying0
  a0 := Tryz.isAgg0
  z0 := Tryz.sizeOf0
  v0 := Tryz.zeroValue0
  t2 := Tryz.underlying2
  a2 := Tryz.isAgg2
  z2 := Tryz.sizeOf2
  v2 := Tryz.zeroValue2
  t3 := Tryz.underlying3
  a3 := Tryz.isAgg3
  z3 := Tryz.sizeOf3
  v3 := Tryz.zeroValue3
  t4 := Tryz.underlying4
  a4 := Tryz.isAgg4
  z4 := Tryz.sizeOf4
  v4 := Tryz.zeroValue4
  t5 := Tryz.underlying5
  a5 := Tryz.isAgg5
  z5 := Tryz.sizeOf5
  v5 := Tryz.zeroValue5
  t9 := Tryz.underlying9
  a9 := Tryz.isAgg9
  z9 := Tryz.sizeOf9
  v9 := Tryz.zeroValue9
  t20 := Tryz.underlying20
  a20 := Tryz.isAgg20
  z20 := Tryz.sizeOf20
  v20 := Tryz.zeroValue20
  t37 := Tryz.underlying101
  a37 := Tryz.isAgg101
  z37 := Tryz.sizeOf101
  v37 := Tryz.zeroValue101
  t46 := Tryz.underlying171
  a46 := Tryz.isAgg171
  z46 := Tryz.sizeOf171
  v46 := Tryz.zeroValue171
  t51 := Tryz.underlying193
  a51 := Tryz.isAgg193
  z51 := Tryz.sizeOf193
  v51 := Tryz.zeroValue193
  t53 := Tryz.underlying182
  a53 := Tryz.isAgg182
  z53 := Tryz.sizeOf182
  v53 := Tryz.zeroValue182
  t171 := Tryz.underlying181
  a171 := Tryz.isAgg181
  z171 := Tryz.sizeOf181
  v171 := Tryz.zeroValue181
  t173 := Tryz.underlying185
  a173 := Tryz.isAgg185
  z173 := Tryz.sizeOf185
  v173 := Tryz.zeroValue185
  t212 := Tryz.underlying209
  a212 := Tryz.isAgg209
  z212 := Tryz.sizeOf209
  v212 := Tryz.zeroValue209
  t213 := Tryz.underlying210
  a213 := Tryz.isAgg210
  z213 := Tryz.sizeOf210
  t232 := Tryz.underlying227
  a232 := Tryz.isAgg227
  z232 := Tryz.sizeOf227
  v232 := Tryz.zeroValue227
  t233 := Tryz.underlying228
  a233 := Tryz.isAgg228
  z233 := Tryz.sizeOf228
  v233 := Tryz.zeroValue228
  g17 := by kernel_rfl
  g18 := by kernel_rfl
  g19 := by kernel_rfl
  i0 := by kernel_rfl
  i2 := by kernel_rfl
  i3 := by kernel_rfl
  i4 := by kernel_rfl
  i5 := by kernel_rfl
  i9 := by kernel_rfl
  i20 := by kernel_rfl
  i37 := by kernel_rfl
  i46 := by kernel_rfl
  i51 := by kernel_rfl
  i53 := by kernel_rfl
  i171 := by kernel_rfl
  i173 := by kernel_rfl
  i212 := by kernel_rfl
  i232 := by kernel_rfl
  i233 := by kernel_rfl
  m17 := by kernel_rfl
  m18 := by kernel_rfl
  m19 := by kernel_rfl }
open Go.RowKit Go.Sort Go.Lib in
theorem strconv_Itoa (n : Int) (h0 : -9223372036854775808 ≤ n) (h1 : n ≤ 9223372036854775807) (w : World) (htab : Lib.TabIs Tryz.prog w "internal/strconv.uint64pow10" .u64 Lib.pow10Tab) :
    Calls Tryz.prog 50 #[.int .i64 n] w fun e w' => e = .returned (.string ⟨(Lib.itoa n).toArray⟩) ∧ ∃ k os, w' = grow (w.drewN k) os := Any.strconv_Itoa laysM171 n h0 h1 w htab
def laysM316_ren : Go.Shelf.Ren := ⟨fun | 316 => 106 | n => n, fun | 9 => 9 | 3 => 3 | 4 => 4 | 37 => 101 | 0 => 0 | 127 => 143 | 5 => 5 | n => n, fun | n => n⟩
theorem laysM316 : Go.Proofs.LaysM.n316 Tryz.prog laysM316_ren := {
  mixed := by kernel_rfl
  f316 := Tryz.func106.trans (congrArg some (by kernel_rfl))
  t0 := Tryz.underlying0
  a0 := Tryz.isAgg0
  z0 := Tryz.sizeOf0
  v0 := Tryz.zeroValue0
  t3 := Tryz.underlying3
  a3 := Tryz.isAgg3
  z3 := Tryz.sizeOf3
  v3 := Tryz.zeroValue3
  t4 := Tryz.underlying4
  a4 := Tryz.isAgg4
  z4 := Tryz.sizeOf4
  v4 := Tryz.zeroValue4
  t9 := Tryz.underlying9
  a9 := Tryz.isAgg9
  z9 := Tryz.sizeOf9
  v9 := Tryz.zeroValue9
  t37 := Tryz.underlying101
  a37 := Tryz.isAgg101
  z37 := Tryz.sizeOf101
  v37 := Tryz.zeroValue101
  t127 := Tryz.underlying143
  a127 := Tryz.isAgg143
  z127 := Tryz.sizeOf143
  v127 := Tryz.zeroValue143
  t5 := Tryz.underlying5
  a5 := Tryz.isAgg5
  z5 := Tryz.sizeOf5
  v5 := Tryz.zeroValue5
  i0 := by kernel_rfl
  i3 := by kernel_rfl
  i4 := by kernel_rfl
  i5 := by kernel_rfl
  i9 := by kernel_rfl
  i37 := by kernel_rfl
  i127 := by kernel_rfl }
open Go.RowKit in
theorem stringslite_Clone (s : ByteArray) (w : World) (hlim : s.size ≤ 281474976710656) :
    Calls Tryz.prog 106 #[.string s] w fun e w' => e = .returned (.string s) ∧ Below w.heap.size w w' := Any.stringslite_Clone laysM316 s w hlim
def lays99_ren : Go.Shelf.Ren := ⟨fun | 99 => 164 | 206 => 179 | n => n, fun | 9 => 9 | 4 => 4 | 3 => 3 | n => n, fun | n => n⟩
theorem lays99 : Go.Proofs.Lays.n99 Tryz.prog lays99_ren := {
  mixed := by kernel_rfl
  f99 := Tryz.func164.trans (congrArg some (by kernel_rfl))
  f206 := Tryz.func179.trans (congrArg some (by kernel_rfl))
  t3 := Tryz.underlying3
  a3 := Tryz.isAgg3
  z3 := Tryz.sizeOf3
  v3 := Tryz.zeroValue3
  t4 := Tryz.underlying4
  a4 := Tryz.isAgg4
  z4 := Tryz.sizeOf4
  v4 := Tryz.zeroValue4
  t9 := Tryz.underlying9
  a9 := Tryz.isAgg9
  z9 := Tryz.sizeOf9
  v9 := Tryz.zeroValue9 }
open Go.RowKit Go.Lib in
theorem strings_HasPrefix (s p : ByteArray) (w : World) :
    Calls Tryz.prog 164 #[.string s, .string p] w fun e w' => e = .returned (.bool (Lib.hasPrefix s.data.toList p.data.toList)) ∧ w' = w := Any.strings_HasPrefix lays99 s p w
def lays109_ren : Go.Shelf.Ren := ⟨fun | 109 => 84 | n => n, fun | 31 => 22 | 9 => 9 | 3 => 3 | 0 => 0 | 4 => 4 | n => n, fun | n => n⟩
theorem lays109 : Go.Proofs.Lays.n109 Tryz.prog lays109_ren := {
  mixed := by kernel_rfl
  f109 := Tryz.func84.trans (congrArg some (by kernel_rfl))
  t0 := Tryz.underlying0
  a0 := Tryz.isAgg0
  z0 := Tryz.sizeOf0
  v0 := Tryz.zeroValue0
  t3 := Tryz.underlying3
  a3 := Tryz.isAgg3
  z3 := Tryz.sizeOf3
  v3 := Tryz.zeroValue3
  t4 := Tryz.underlying4
  a4 := Tryz.isAgg4
  z4 := Tryz.sizeOf4
  v4 := Tryz.zeroValue4
  t9 := Tryz.underlying9
  a9 := Tryz.isAgg9
  z9 := Tryz.sizeOf9
  v9 := Tryz.zeroValue9
  t31 := Tryz.underlying22
  a31 := Tryz.isAgg22
  z31 := Tryz.sizeOf22
  v31 := Tryz.zeroValue22 }
open Go.Lib in
theorem slices_Index_string (b off n c : Nat) (zs : List ByteArray) (x : ByteArray) (w : World) (hz : n ≤ zs.length) (hbig : n ≤ 9223372036854775807) (hc : ∀ j, j < zs.length → w.cell? ⟨b, off + j, none⟩ = some (.string (zs.getD j ByteArray.empty))) :
    Calls Tryz.prog 84 #[.slice (some ⟨b, off, none⟩) n c, .string x] w fun e w' => e = .returned (.int .i64 (Lib.idxOfS (zs.take n) x)) ∧ w' = w := Any.slices_Index_string lays109 b off n c zs x w hz hbig hc
open Go.Lib in
theorem slices_Index_string_empty (a : Option Addr) (c : Nat) (x : ByteArray) (w : World) :
    Calls Tryz.prog 84 #[.slice a 0 c, .string x] w fun e w' => e = .returned (.int .i64 (Lib.idxOfS [] x)) ∧ w' = w := Any.slices_Index_string_empty lays109 a c x w
end Go.Proofs.YtfooiggedgcjcaaGreatDoor.S

namespace Go.Proofs.YtfooiggedgcjcaaGreatDoor.I
open Go Go.RowKit Go.Proofs.YtfooiggedgcjcaaGreatDoor.B Go.Proofs.YtfooiggedgcjcaaGreatDoor.K Go.Proofs.YtfooiggedgcjcaaGreatDoor.E
set_option linter.unusedVariables false

set_option maxHeartbeats 400000 in
theorem isLetter_any (c : UInt8) (w : World) : Calls Tryz.prog 108 #[.int .u8 (c.toNat : Int)] w fun e w' => e = .returned (.bool (letter c)) ∧ w = w' := by
  obtain ⟨n, hn⟩ : ∃ n, c.toNat = n := ⟨_, rfl⟩
  have hv : letter c = decide (97 ≤ n ∧ n ≤ 122) := by unfold letter; rw [hn]
  rw [hv, hn]
  clear hv hn
  by_cases h1 : 97 ≤ n
  · have hd : decide (97 ≤ n ∧ n ≤ 122) = decide (n ≤ 122) := by (rw [Bool.eq_iff_iff]; simp [h1])
    have h1' : 97 ≤ (n : Int) := by omega
    rw [hd]
    clear hd
    go_enter Tryz.func108, Tryz.ntmps108
    go_wp2_with fail
    go_ret
    exact ⟨ret_bool (by (rw [Bool.eq_iff_iff]; simp <;> omega)), rfl⟩
  · have hd : decide (97 ≤ n ∧ n ≤ 122) = false := decide_eq_false (by omega)
    have b1 : decide (97 ≤ (n : Int)) = false := decide_eq_false (by omega)
    rw [hd]
    clear hd h1
    go_enter Tryz.func108, Tryz.ntmps108
    go_wp2_with fail
    go_ret
    exact ⟨rfl, rfl⟩

set_option maxHeartbeats 400000 in
theorem isDigit_any (c : UInt8) (w : World) : Calls Tryz.prog 138 #[.int .u8 (c.toNat : Int)] w fun e w' => e = .returned (.bool (digit c)) ∧ w = w' := by
  obtain ⟨n, hn⟩ : ∃ n, c.toNat = n := ⟨_, rfl⟩
  have hv : digit c = decide (48 ≤ n ∧ n ≤ 57) := by unfold digit; rw [hn]
  rw [hv, hn]
  clear hv hn
  by_cases h1 : 48 ≤ n
  · have hd : decide (48 ≤ n ∧ n ≤ 57) = decide (n ≤ 57) := by (rw [Bool.eq_iff_iff]; simp [h1])
    have h1' : 48 ≤ (n : Int) := by omega
    rw [hd]
    clear hd
    go_enter Tryz.func138, Tryz.ntmps138
    go_wp2_with fail
    go_ret
    exact ⟨ret_bool (by (rw [Bool.eq_iff_iff]; simp <;> omega)), rfl⟩
  · have hd : decide (48 ≤ n ∧ n ≤ 57) = false := decide_eq_false (by omega)
    have b1 : decide (48 ≤ (n : Int)) = false := decide_eq_false (by omega)
    rw [hd]
    clear hd h1
    go_enter Tryz.func138, Tryz.ntmps138
    go_wp2_with fail
    go_ret
    exact ⟨rfl, rfl⟩

set_option maxHeartbeats 400000 in
theorem ofName_any (c : UInt8) (w : World) : Calls Tryz.prog 137 #[.int .u8 (c.toNat : Int)] w fun e w' => e = .returned (.bool (idc c)) ∧ w = w' := by
  have HL := Lib.hid (fun W => isLetter_any c W)
  have HD := Lib.hid (fun W => isDigit_any c W)
  rw [idc_of]
  have h95 : decide (c = 95) = decide (c.toNat = 95) := by
    rw [Bool.eq_iff_iff]; simp only [decide_eq_true_eq]
    exact ⟨fun h => by rw [h]; rfl, fun h => UInt8.toNat_inj.1 h⟩
  rw [h95]
  obtain ⟨n, hn⟩ : ∃ n, c.toNat = n := ⟨_, rfl⟩
  rw [hn] at HL HD ⊢
  clear h95
  obtain ⟨bl, hbl⟩ : ∃ b, letter c = b := ⟨_, rfl⟩
  obtain ⟨bd, hbd⟩ : ∃ b, digit c = b := ⟨_, rfl⟩
  rw [hbl] at HL ⊢
  rw [hbd] at HD ⊢
  clear hbl hbd hn
  cases bl with
  | true =>
    go_enter Tryz.func137, Tryz.ntmps137
    go_wp2_with (go_at_call 108; refine (HL.out _).mono ?_; rintro _ w1 ⟨rfl, rfl⟩)
    go_ret
    exact ⟨rfl, rfl⟩
  | false =>
    cases bd with
    | true =>
      go_enter Tryz.func137, Tryz.ntmps137
      go_wp2_with (first | (go_at_call 108; refine (HL.out _).mono ?_; rintro _ w1 ⟨rfl, rfl⟩) | (go_at_call 138; refine (HD.out _).mono ?_; rintro _ w1 ⟨rfl, rfl⟩))
      go_ret
      exact ⟨rfl, rfl⟩
    | false =>
      go_enter Tryz.func137, Tryz.ntmps137
      go_wp2_with (first | (go_at_call 108; refine (HL.out _).mono ?_; rintro _ w1 ⟨rfl, rfl⟩) | (go_at_call 138; refine (HD.out _).mono ?_; rintro _ w1 ⟨rfl, rfl⟩))
      go_ret
      exact ⟨ret_bool (by (rw [Bool.eq_iff_iff]; simp <;> omega)), rfl⟩

theorem takeWhile_stop {p : UInt8 → Bool} (l : Bs) (k : Nat) (hk : k ≤ l.length) (h1 : ∀ j c, j < k → l[j]? = some c → p c = true) (h2 : ∀ c, l[k]? = some c → p c = false) : l.takeWhile p = l.take k := by
  induction l generalizing k with
  | nil => simp
  | cons c r ih =>
    cases k with
    | zero =>
      have := h2 c rfl
      rw [List.takeWhile_cons, if_neg (by rw [this]; decide), List.take_zero]
    | succ k =>
      have := h1 0 c (by omega) rfl
      rw [List.takeWhile_cons, if_pos this, List.take_succ_cons, ih k (by simpa using hk) (fun j d hj hd => h1 (j + 1) d (by omega) hd) (fun d hd => h2 d hd)]

theorem begin_end {p : UInt8 → Bool} (u : Bs) (m M K : Nat) (hx : M ≤ u.length ∧ (u.take m).length = M) (hK : K ≤ M) (h1 : ∀ j c, j < K → u[j]? = some c → p c = true) (h2 : ∀ c, (u.take m)[K]? = some c → p c = false) :
    (str u).extract 0 K = str ((u.take m).takeWhile p) := by
  have hm : K ≤ m := by have := hx.2; rw [List.length_take] at this; omega
  rw [takeWhile_stop (u.take m) K (by omega) (fun j c hj hc => ?_) h2, List.take_take, Nat.min_eq_left hm, str_take]
  rw [List.getElem?_take] at hc
  split at hc
  · exact h1 j c hj hc
  · cases hc

set_option maxHeartbeats 1000000 in
theorem beginName_any (u : Bs) (m : Nat) (w : World) (hl : u.length ≤ 9223372036854775807) (hm : m ≤ 9223372036854775807) :
    Calls Tryz.prog 136 #[sv u, .int .i64 (m : Int), .func (.func 137) #[] #[]] w fun e w' => e = .returned (sv ((u.take m).takeWhile idc)) ∧ w = w' := by
  have hsz : (str u).size = u.length := str_size u
  obtain ⟨M, hM⟩ : ∃ M, min m u.length = M := ⟨_, rfl⟩
  have hMI : min (m : Int) (u.length : Int) = (M : Int) := by omega
  have HX := Lib.hid (show M ≤ u.length ∧ (u.take m).length = M by rw [List.length_take]; omega)
  have HB := Lib.hid (show M ≤ 9223372036854775807 by omega)
  unfold sv
  clear hM
  go_enter Tryz.func136, Tryz.ntmps136
  go_wp2_with fail
  go_loopw [7] (fun k wr => ∃ (K : Nat), k = .int .i64 (K : Int) ∧ K ≤ M ∧ w = wr ∧ Hid (∀ j c, j < K → u[j]? = some c → idc c = true)) (fun k _ => M - (intOf k).toNat)
  case atStart => exact ⟨0, rfl, Nat.zero_le _, rfl, Lib.hid (fun j c h => absurd h (Nat.not_lt_zero _))⟩
  case round =>
    obtain ⟨K, rfl, hK, rfl, HP⟩ := hrel
    by_cases hlt : K < M
    · obtain ⟨c, hc⟩ : ∃ c, u[K]? = some c := ⟨_, List.getElem?_eq_getElem (by have := HX.out.1; omega)⟩
      have HC := Lib.hid hc
      have hk : K < (str u).size := by rw [hsz]; have := HX.out.1; omega
      have hg : (str u)[K]'hk = c := by rw [str_get]; exact (List.getElem?_eq_some_iff.1 hc).2
      have hltI : (K : Int) < (M : Int) := by omega
      have hltL : (K : Int) < (u.length : Int) := by have := HX.out.1; omega
      have hwK : IntKind.i64.wrap ((K : Int) + 1) = (K : Int) + 1 := IntWalk.i64_in _ (by have := HB.out; omega)
      have HS := Lib.hid (fun W => ofName_any c W)
      clear hc
      cases hp : idc c with
      | true =>
        have HPC := Lib.hid hp
        rw [hp] at HS
        clear hp
        go_wp2_with (go_at_call 137; refine (HS.out _).mono ?_; rintro _ w1 ⟨rfl, rfl⟩)
        go_roundw
        case rel =>
          refine ⟨K + 1, by go_num, by omega, trivial, Lib.hid (fun j d hj hd => ?_)⟩
          rcases Nat.lt_succ_iff_lt_or_eq.1 hj with h | rfl
          · exact HP.out j d h hd
          · rw [HC.out] at hd; cases hd; exact HPC.out
        case measure => simp [intOf]; omega
      | false =>
        have HPC := Lib.hid hp
        rw [hp] at HS
        clear hp
        go_wp2_with (go_at_call 137; refine (HS.out _).mono ?_; rintro _ w1 ⟨rfl, rfl⟩)
        go_ret
        exact ⟨ret_str (begin_end u m M K HX.out hK HP.out (fun d hd => by
          rw [List.getElem?_take] at hd
          split at hd
          · rw [HC.out] at hd; cases hd; exact HPC.out
          · cases hd)), rfl⟩
    · have hltI : ¬ (K : Int) < (M : Int) := by omega
      obtain rfl : K = M := by omega
      go_wp2_with fail
      go_ret
      exact ⟨ret_str (begin_end u m K K HX.out hK HP.out (fun d hd => by rw [List.getElem?_eq_none (by rw [HX.out.2]; exact Nat.le_refl _)] at hd; cases hd)), rfl⟩

set_option maxHeartbeats 1000000 in
theorem beginDigit_any (u : Bs) (m : Nat) (w : World) (hl : u.length ≤ 9223372036854775807) (hm : m ≤ 9223372036854775807) :
    Calls Tryz.prog 136 #[sv u, .int .i64 (m : Int), .func (.func 138) #[] #[]] w fun e w' => e = .returned (sv ((u.take m).takeWhile digit)) ∧ w = w' := by
  have hsz : (str u).size = u.length := str_size u
  obtain ⟨M, hM⟩ : ∃ M, min m u.length = M := ⟨_, rfl⟩
  have hMI : min (m : Int) (u.length : Int) = (M : Int) := by omega
  have HX := Lib.hid (show M ≤ u.length ∧ (u.take m).length = M by rw [List.length_take]; omega)
  have HB := Lib.hid (show M ≤ 9223372036854775807 by omega)
  unfold sv
  clear hM
  go_enter Tryz.func136, Tryz.ntmps136
  go_wp2_with fail
  go_loopw [7] (fun k wr => ∃ (K : Nat), k = .int .i64 (K : Int) ∧ K ≤ M ∧ w = wr ∧ Hid (∀ j c, j < K → u[j]? = some c → digit c = true)) (fun k _ => M - (intOf k).toNat)
  case atStart => exact ⟨0, rfl, Nat.zero_le _, rfl, Lib.hid (fun j c h => absurd h (Nat.not_lt_zero _))⟩
  case round =>
    obtain ⟨K, rfl, hK, rfl, HP⟩ := hrel
    by_cases hlt : K < M
    · obtain ⟨c, hc⟩ : ∃ c, u[K]? = some c := ⟨_, List.getElem?_eq_getElem (by have := HX.out.1; omega)⟩
      have HC := Lib.hid hc
      have hk : K < (str u).size := by rw [hsz]; have := HX.out.1; omega
      have hg : (str u)[K]'hk = c := by rw [str_get]; exact (List.getElem?_eq_some_iff.1 hc).2
      have hltI : (K : Int) < (M : Int) := by omega
      have hltL : (K : Int) < (u.length : Int) := by have := HX.out.1; omega
      have hwK : IntKind.i64.wrap ((K : Int) + 1) = (K : Int) + 1 := IntWalk.i64_in _ (by have := HB.out; omega)
      have HS := Lib.hid (fun W => isDigit_any c W)
      clear hc
      cases hp : digit c with
      | true =>
        have HPC := Lib.hid hp
        rw [hp] at HS
        clear hp
        go_wp2_with (go_at_call 138; refine (HS.out _).mono ?_; rintro _ w1 ⟨rfl, rfl⟩)
        go_roundw
        case rel =>
          refine ⟨K + 1, by go_num, by omega, trivial, Lib.hid (fun j d hj hd => ?_)⟩
          rcases Nat.lt_succ_iff_lt_or_eq.1 hj with h | rfl
          · exact HP.out j d h hd
          · rw [HC.out] at hd; cases hd; exact HPC.out
        case measure => simp [intOf]; omega
      | false =>
        have HPC := Lib.hid hp
        rw [hp] at HS
        clear hp
        go_wp2_with (go_at_call 138; refine (HS.out _).mono ?_; rintro _ w1 ⟨rfl, rfl⟩)
        go_ret
        exact ⟨ret_str (begin_end u m M K HX.out hK HP.out (fun d hd => by
          rw [List.getElem?_take] at hd
          split at hd
          · rw [HC.out] at hd; cases hd; exact HPC.out
          · cases hd)), rfl⟩
    · have hltI : ¬ (K : Int) < (M : Int) := by omega
      obtain rfl : K = M := by omega
      go_wp2_with fail
      go_ret
      exact ⟨ret_str (begin_end u m K K HX.out hK HP.out (fun d hd => by rw [List.getElem?_eq_none (by rw [HX.out.2]; exact Nat.le_refl _)] at hd; cases hd)), rfl⟩

end Go.Proofs.YtfooiggedgcjcaaGreatDoor.I
